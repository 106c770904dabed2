package expr_test

import (
	"runtime/debug"
	"slices"
	"testing"

	"ropewalk/api"
	"ropewalk/expr"
)

// mustBe holds what Eval and All tell of e against v and err, where that is so great, or so deep, that nothing else can be held against it.
func mustBe(t *testing.T, e api.Expr, vars []api.Value, v api.Value, err api.Errno) {
	t.Helper()
	for range 2 {
		if told, e := expr.Eval(e, vars); told != v || e != err {
			t.Errorf("%v, %v, not %v, %v", told, e, v, err)
		}
	}
	var want []api.Value
	if err == api.OK {
		want = []api.Value{v, v}
	}
	if l, e := expr.All(vars, e, e); !slices.Equal(l, want) || e != err {
		t.Errorf("%v, %v, not %v, %v", l, e, want, err)
	}
}

// nested is e below so many operators of one Kid.
func nested(deep int, o api.Op, e api.Expr) api.Expr {
	for range deep {
		e = op(o, e)
	}
	return e
}

// P9.1 with R1: calls end at expressions that are far deeper than a tree, and do not nest as deep as these, for which the stack here is too small.
func TestDeep(t *testing.T) {
	defer debug.SetMaxStack(debug.SetMaxStack(1 << 20))
	for _, deep := range []int{1, 2, 29, 30, 31, 1000, 50000, 50001} {
		sign := int64(1 - deep%2*2)
		mustBe(t, nested(deep, api.OpNeg, variable(1)), numbers(0, 7), number(7*sign), api.OK)
		mustBe(t, nested(deep, api.OpNot, one(0)), nil, number(int64(deep%2)), api.OK)
		for err, e := range map[api.Errno]api.Expr{api.ErrOverflow: beyond(), api.ErrKind: mixed(), api.ErrArg: spoilt()} {
			mustBe(t, nested(deep, api.OpNeg, e), nil, api.Value{}, err)
			mustBe(t, op(api.OpAdd, nested(deep, api.OpNeg, e), beyond()), nil, api.Value{}, err)
			mustBe(t, op(api.OpAdd, beyond(), nested(deep, api.OpNeg, e)), nil, api.Value{}, api.ErrOverflow)
		}
		mustBe(t, nested(deep, api.OpNeg, variable(2)), numbers(0, 7), api.Value{}, api.ErrArg)
		mustBe(t, nested(deep, api.OpNeg, atom("a")), nil, api.Value{}, api.ErrKind)
		mustBe(t, nested(deep, api.OpNeg, one(least)), nil, api.Value{}, api.ErrOverflow)
		left, right := variable(0), variable(0)
		for range deep {
			left, right = op(api.OpAdd, left, one(2)), op(api.OpSub, one(2), right)
		}
		mustBe(t, left, numbers(5), number(5+2*int64(deep)), api.OK)
		mustBe(t, right, numbers(5), number(1+4*sign), api.OK)
		mustBe(t, op(api.OpMul, left, right), []api.Value{name("a")}, api.Value{}, api.ErrKind)
	}
}

// P9.1, P9.2 with R1: rows that are very wide.
func TestWide(t *testing.T) {
	const many = 200000
	row := slices.Repeat([]api.Expr{op(api.OpAdd, variable(0), one(1))}, many)
	l, err := expr.All(numbers(4), row...)
	if !slices.Equal(l, slices.Repeat(numbers(5), many)) || err != api.OK {
		t.Errorf("%d, %v", len(l), err)
	}
	mustBe(t, op(api.OpAdd, row...), numbers(4), api.Value{}, api.ErrArg)
	row[many-1] = mixed()
	mustBe(t, op(api.OpAdd, row...), numbers(4), api.Value{}, api.ErrKind)
	if l, err := expr.All(numbers(4), row...); len(l) != 0 || err != api.ErrKind {
		t.Errorf("%d, %v", len(l), err)
	}
	vars := slices.Repeat(numbers(1), many)
	vars[many-1] = number(2)
	mustBe(t, op(api.OpSub, variable(0), variable(many-1)), vars, number(-1), api.OK)
	mustBe(t, variable(many), vars, api.Value{}, api.ErrArg)
}

// doubled has two Kids, which are one row, and so on, so many times.
func doubled(deep int, o api.Op, e api.Expr) api.Expr {
	for range deep {
		e = op(o, e, e)
	}
	return e
}

// P9.1, P9.2 with R1: parts that stand in expressions more than once count each time, which takes no longer.
func TestSharedRows(t *testing.T) {
	for _, deep := range []int{1, 2, 3, 10, 20, 40, 61, 62} {
		mustBe(t, doubled(deep, api.OpAdd, variable(0)), numbers(1), number(1<<deep), api.OK)
		mustBe(t, doubled(deep, api.OpAdd, variable(0)), numbers(-2), number(-2<<deep), api.OK)
		mustBe(t, op(api.OpSub, doubled(deep, api.OpAdd, variable(0)), doubled(deep-1, api.OpAdd, one(1))), numbers(1), number(1<<(deep-1)), api.OK)
		mustBe(t, op(api.OpAdd, doubled(deep, api.OpEq, variable(0)), one(1)), numbers(1), number(2), api.OK)
	}
	for _, deep := range []int{63, 64, 65, 1000, 100000} {
		mustBe(t, doubled(deep, api.OpAdd, variable(0)), numbers(1), api.Value{}, api.ErrOverflow)
		mustBe(t, doubled(deep, api.OpAdd, variable(0)), numbers(0), number(0), api.OK)
		mustBe(t, doubled(deep, api.OpAnd, variable(0)), numbers(9), number(1), api.OK)
		mustBe(t, doubled(deep, api.OpMul, variable(0)), numbers(2), api.Value{}, api.ErrOverflow)
		mustBe(t, doubled(deep, api.OpOr, variable(0)), []api.Value{name("a")}, api.Value{}, api.ErrKind)
		mustBe(t, doubled(deep, api.OpOr, variable(1)), numbers(1), api.Value{}, api.ErrArg)
		mustBe(t, op(api.OpEq, doubled(deep, api.OpOr, one(1)), beyond()), nil, api.Value{}, api.ErrOverflow)
	}
	// Many that have one deep row below them.
	shared := []api.Expr{nested(100000, api.OpNeg, variable(0))}
	row := slices.Repeat([]api.Expr{op(api.OpNeg, shared...), op(api.OpNot, shared...)}, 50000)
	if l, err := expr.All(numbers(3), row...); !slices.Equal(l, slices.Repeat(numbers(-3, 0), 50000)) || err != api.OK {
		t.Errorf("%d, %v", len(l), err)
	}
}

// P9.1, P9.2: rows of one memory, that begin or end at other places, have their own values.
func TestPartsOfRows(t *testing.T) {
	row := []api.Expr{one(1), op(api.OpNeg, one(2)), op(api.OpAdd, one(3), one(1)), variable(0)}
	for from := range 3 {
		e := op(api.OpSub, op(api.OpAdd, row[from:from+2]...), op(api.OpMul, row[1:3]...))
		mustAgree(t, e, numbers(8))
		mustAgree(t, op(api.OpAdd, e, row[from+1]), numbers(8))
	}
	// Each is a Kid of the next ones, in one row.
	steps := make([]api.Expr, 50)
	steps[0], steps[1] = one(0), variable(0)
	want := numbers(0, 1)
	for i := 2; i < len(steps); i++ {
		steps[i] = op(api.OpAdd, steps[i-2:i]...)
		want = append(want, number(want[i-2].Num+want[i-1].Num))
	}
	if l, err := expr.All(numbers(1), steps...); !slices.Equal(l, want) || err != api.OK {
		t.Errorf("%v, %v", l, err)
	}
	slices.Reverse(want)
	backward := slices.Clone(steps)
	slices.Reverse(backward)
	if l, err := expr.All(numbers(1), backward...); !slices.Equal(l, want) || err != api.OK {
		t.Errorf("%v, %v", l, err)
	}
	if v, err := expr.Eval(steps[49], numbers(1)); v != want[0] || err != api.OK {
		t.Errorf("%v, %v", v, err)
	}
}

// ring is an expression that has itself below it, size operators down; a Kid stands ahead of that.
func ring(size int, ahead api.Expr) api.Expr {
	rows := make([][]api.Expr, size)
	for i := range rows {
		rows[i] = []api.Expr{ahead, op(api.OpAdd)}
	}
	for i := range rows {
		rows[i][1].Kids = rows[(i+1)%size]
	}
	return rows[0][1]
}

// R1: calls end at an expression that holds itself, too: it says nothing, unless an error is met ahead.
func TestRings(t *testing.T) {
	for _, size := range []int{1, 2, 5, 1000} {
		r := ring(size, one(1))
		mustBe(t, r, nil, api.Value{}, api.ErrArg)
		mustBe(t, op(api.OpNot, r), nil, api.Value{}, api.ErrArg)
		mustBe(t, op(api.OpOr, r, beyond()), nil, api.Value{}, api.ErrArg)
		mustBe(t, op(api.OpOr, beyond(), r), nil, api.Value{}, api.ErrOverflow)
		mustBe(t, ring(size, mixed()), nil, api.Value{}, api.ErrKind)
		mustBe(t, ring(size, variable(0)), numbers(1), api.Value{}, api.ErrArg)
		for _, e := range []api.Expr{{Kind: api.ExprConst, Value: number(7)}, {Kind: api.ExprVar}} {
			e.Kids = []api.Expr{r}
			mustBe(t, e, numbers(7), number(7), api.OK)
		}
		mustBe(t, api.Expr{Kind: 9, Kids: []api.Expr{r}}, nil, api.Value{}, api.ErrArg)
	}
	row := []api.Expr{one(1), op(api.OpAdd), one(2)}
	row[1].Kids = row[:2]
	if l, err := expr.All(nil, row...); len(l) != 0 || err != api.ErrArg {
		t.Errorf("%v, %v", l, err)
	}
	row[1].Kids = row[:1]
	row[1].Op = api.OpNeg
	if l, err := expr.All(nil, row...); !slices.Equal(l, numbers(1, -1, 2)) || err != api.OK {
		t.Errorf("%v, %v", l, err)
	}
	row[0] = beyond()
	row[1].Kids = row
	if l, err := expr.All(nil, row[1:]...); len(l) != 0 || err != api.ErrOverflow {
		t.Errorf("%v, %v", l, err)
	}
}
