package value

import (
	"slices"

	"ropewalk/api"
)

// Do answers what op makes of args, or why it makes nothing of them.
func Do(op api.Op, args ...api.Value) (api.Value, api.Errno) {
	if !known(op) || len(args) != places(op) || slices.ContainsFunc(args, wrong) {
		return api.Value{}, api.ErrArg
	}
	if !takesNames(op) && slices.ContainsFunc(args, isName) {
		return api.Value{}, api.ErrKind
	}
	if is, asked := answer(op, args...); asked {
		return Truth(is), api.OK
	}
	n, fits := result(op, args...)
	if !fits {
		return api.Value{}, api.ErrOverflow
	}
	return number(n), api.OK
}

func known(op api.Op) bool {
	return api.OpAdd <= op && op <= api.OpNot
}

func places(op api.Op) int {
	if op == api.OpNeg || op == api.OpNot {
		return 1
	}
	return 2
}

func takesNames(op api.Op) bool {
	return op == api.OpEq || op == api.OpNe
}

// The map is asked right where it is made, and apart from that of result: it is small enough, then, to need no new memory at each call.
func answer(op api.Op, args ...api.Value) (is, asked bool) {
	ask, asked := map[api.Op]func(v ...api.Value) bool{
		api.OpEq:  func(v ...api.Value) bool { return v[0] == v[1] },
		api.OpNe:  func(v ...api.Value) bool { return v[0] != v[1] },
		api.OpLt:  func(v ...api.Value) bool { return v[0].Num < v[1].Num },
		api.OpLe:  func(v ...api.Value) bool { return v[0].Num <= v[1].Num },
		api.OpAnd: func(v ...api.Value) bool { return holds(v[0]) && holds(v[1]) },
		api.OpOr:  func(v ...api.Value) bool { return holds(v[0]) || holds(v[1]) },
		api.OpNot: func(v ...api.Value) bool { return !holds(v[0]) },
	}[op]
	return asked && ask(args...), asked
}

func result(op api.Op, args ...api.Value) (n int64, fits bool) {
	reckon := map[api.Op]func(v ...api.Value) (int64, bool){
		api.OpAdd: func(v ...api.Value) (int64, bool) { return sum(v[0].Num, v[1].Num) },
		api.OpSub: func(v ...api.Value) (int64, bool) { return difference(v[0].Num, v[1].Num) },
		api.OpMul: func(v ...api.Value) (int64, bool) { return product(v[0].Num, v[1].Num) },
		api.OpNeg: func(v ...api.Value) (int64, bool) { return difference(0, v[0].Num) },
	}[op]
	return reckon(args...)
}

func holds(v api.Value) bool {
	return v.Num != 0
}

// A sum that wrapped round stands on the wrong side of a; so does a difference.
func sum(a, b int64) (n int64, fits bool) {
	n = a + b
	return n, (n < a) == (b < 0)
}

func difference(a, b int64) (n int64, fits bool) {
	n = a - b
	return n, (n > a) == (b < 0)
}

// The signs are asked as well as the quotient, since -2^63 / -1 wraps round just as its product does.
func product(a, b int64) (n int64, fits bool) {
	n = a * b
	if a == 0 || b == 0 {
		return n, true
	}
	return n, n/b == a && (n < 0) == ((a < 0) != (b < 0))
}
