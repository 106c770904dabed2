package naive

import (
	"ropewalk/api"
	"ropewalk/check"
	"ropewalk/expr"
)

// right tells whether r is right, and facts are right for it.
func right(r api.Rules, facts ...api.Fact) bool {
	if !check.Right(r) {
		return false
	}
	last := 0
	for _, f := range facts {
		if f.Id <= last || f.Id > api.MaxId || !fits(f, r.Types) {
			return false
		}
		last = f.Id
	}
	return true
}

// fits tells whether f may be a fact of its type.
func fits(f api.Fact, types []api.Type) bool {
	if f.Type < 0 || f.Type >= len(types) {
		return false
	}
	return len(f.Args) == types[f.Type].Fields && allRight(f.Args)
}

// allRight asks expr, since a constant says something if its value is right, and only then.
func allRight(values []api.Value) bool {
	var constants []api.Expr
	for _, v := range values {
		constants = append(constants, api.Expr{Kind: api.ExprConst, Value: v})
	}
	_, err := expr.All(nil, constants...)
	return err == api.OK
}
