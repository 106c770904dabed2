package expr

import (
	"ropewalk/api"
	"ropewalk/value"
)

// saying is what an expression of some kind says, whose Kids, where it asks them, said what stands in kids.
type saying func(e *api.Expr, kids ...api.Value) (api.Value, api.Errno)

func sayings(vars []api.Value) map[api.ExprKind]saying {
	return map[api.ExprKind]saying{
		api.ExprConst: func(e *api.Expr, _ ...api.Value) (api.Value, api.Errno) {
			return ifRight(e.Value)
		},
		api.ExprVar: func(e *api.Expr, _ ...api.Value) (api.Value, api.Errno) {
			if e.Var < 0 || e.Var >= len(vars) {
				return api.Value{}, api.ErrArg
			}
			return ifRight(vars[e.Var])
		},
		api.ExprOp: func(e *api.Expr, kids ...api.Value) (api.Value, api.Errno) {
			return value.Do(e.Op, kids...)
		},
	}
}

func ifRight(v api.Value) (api.Value, api.Errno) {
	if !value.Right(v) {
		return api.Value{}, api.ErrArg
	}
	return v, api.OK
}
