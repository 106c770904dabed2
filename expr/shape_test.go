package expr_test

import (
	"math"
	"reflect"
	"slices"
	"testing"
	"unsafe"

	"ropewalk/api"
	"ropewalk/expr"
)

// P9.1: there are three kinds; what is of none says nothing, whatever it has, and its Kids are not asked.
func TestKinds(t *testing.T) {
	for kind := range 256 {
		k := api.ExprKind(kind)
		if k == api.ExprConst || k == api.ExprVar || k == api.ExprOp {
			continue
		}
		for _, e := range []api.Expr{{Kind: k}, {Kind: k, Value: number(1)}, {Kind: k, Var: 0, Op: api.OpNeg, Kids: []api.Expr{one(1)}}, {Kind: k, Kids: []api.Expr{beyond()}}, {Kind: k, Op: api.OpAdd, Kids: []api.Expr{mixed(), mixed()}}} {
			mustFail(t, e, numbers(1), api.ErrArg)
			mustFail(t, op(api.OpOr, one(1), e), numbers(1), api.ErrArg)
			mustFail(t, op(api.OpOr, e, beyond()), numbers(1), api.ErrArg)
			mustFail(t, op(api.OpOr, beyond(), e), numbers(1), api.ErrOverflow)
			mustRefuse(t, numbers(1), api.ErrArg, one(1), e, beyond())
		}
	}
}

// P9.1: there are eleven operators, of one Kid or of two; all Kids are asked ahead of it, from left to right.
func TestCounts(t *testing.T) {
	for i := range 256 {
		o := api.Op(i)
		for many := range 6 {
			fits := slices.Contains(operators(), o) && (ofOne(o) && many == 1 || !ofOne(o) && many == 2)
			if !fits {
				mustFail(t, op(o, slices.Repeat([]api.Expr{one(1)}, many)...), nil, api.ErrArg)
				mustFail(t, op(o, slices.Repeat([]api.Expr{atom("a")}, many)...), nil, api.ErrArg)
			}
			for at := range many {
				row := slices.Repeat([]api.Expr{one(1)}, many)
				row[at] = beyond()
				mustFail(t, op(o, row...), nil, api.ErrOverflow)
				row[at] = mixed()
				mustFail(t, op(o, row...), nil, api.ErrKind)
				for behind := at + 1; behind < many; behind++ {
					both := slices.Clone(row)
					both[behind] = beyond()
					mustFail(t, op(o, both...), nil, api.ErrKind)
				}
			}
		}
	}
}

// P9.1: all Kids are asked, also where one of them would be enough.
func TestAllKidsAreAsked(t *testing.T) {
	for _, o := range operators() {
		if ofOne(o) {
			continue
		}
		for _, v := range []api.Expr{one(0), one(1), one(-1), atom("a")} {
			mustFail(t, op(o, v, beyond()), nil, api.ErrOverflow)
			mustFail(t, op(o, v, mixed()), nil, api.ErrKind)
			mustFail(t, op(o, v, spoilt()), nil, api.ErrArg)
			mustFail(t, op(o, beyond(), v), nil, api.ErrOverflow)
			mustFail(t, op(o, mixed(), v), nil, api.ErrKind)
			mustFail(t, op(o, spoilt(), v), nil, api.ErrArg)
		}
	}
}

// P9.1: the error of what is deep on the left comes ahead of that of what is high on the right, and behind none.
func TestFirstError(t *testing.T) {
	fails := []api.Expr{beyond(), mixed(), spoilt()}
	errs := []api.Errno{api.ErrOverflow, api.ErrKind, api.ErrArg}
	for i, first := range fails {
		for _, other := range fails {
			below := op(api.OpAdd, one(1), op(api.OpNot, op(api.OpMul, one(2), first)))
			mustFail(t, op(api.OpAdd, below, other), nil, errs[i])
			mustFail(t, op(api.OpNeg, below, other), nil, errs[i])
			mustFail(t, op(0, below, other), nil, errs[i])
			mustFail(t, op(api.OpLe, op(api.OpEq, op(api.OpSub, one(1), one(2)), first), op(api.OpMul, other, below)), nil, errs[i])
			mustRefuse(t, nil, errs[i], one(1), below, other)
			mustRefuse(t, nil, errs[i], first, below, other)
		}
	}
}

// P9.1: what a kind does not use plays no part.
func TestOtherFields(t *testing.T) {
	bad := []api.Expr{beyond(), mixed(), spoilt(), {}}
	for _, v := range append(wrongValues(), number(9), name("c")) {
		for _, at := range []int{math.MinInt, -1, 0, 1, 2, math.MaxInt} {
			for _, o := range []api.Op{0, api.OpAdd, api.OpNeg, 12, 255} {
				for _, kids := range [][]api.Expr{nil, {}, {one(1)}, bad} {
					mustSay(t, api.Expr{Kind: api.ExprConst, Value: number(7), Var: at, Op: o, Kids: kids}, numbers(1, 2), number(7))
					mustSay(t, api.Expr{Kind: api.ExprConst, Value: name("b"), Var: at, Op: o, Kids: kids}, nil, name("b"))
					mustSay(t, api.Expr{Kind: api.ExprVar, Var: 1, Value: v, Op: o, Kids: kids}, numbers(1, 2), number(2))
				}
			}
			mustSay(t, api.Expr{Kind: api.ExprOp, Op: api.OpSub, Kids: []api.Expr{variable(0), variable(1)}, Value: v, Var: at}, numbers(1, 2), number(-1))
			mustSay(t, op(api.OpAdd, api.Expr{Kind: api.ExprOp, Op: api.OpNot, Kids: []api.Expr{variable(0)}, Value: v, Var: at}, one(5)), numbers(1), number(5))
		}
	}
}

// R6: lists without elements and nil ones are one.
func TestEmptyLists(t *testing.T) {
	for _, vars := range [][]api.Value{nil, {}} {
		mustSay(t, one(1), vars, number(1))
		mustFail(t, variable(0), vars, api.ErrArg)
		mustFail(t, api.Expr{Kind: api.ExprOp, Op: api.OpNeg, Kids: nil}, vars, api.ErrArg)
		mustFail(t, api.Expr{Kind: api.ExprOp, Op: api.OpNeg, Kids: []api.Expr{}}, vars, api.ErrArg)
		mustTell(t, vars, nil)
	}
}

// place is where a text's bytes stand.
func place(s string) *byte { return unsafe.StringData(s) }

// R3: what is told lies apart from what was handed in, from what else is told, and from what another call tells.
func TestMemory(t *testing.T) {
	vars := []api.Value{name(string([]byte("ab"))), number(1), name(string([]byte("cd")))}
	row := []api.Expr{variable(0), variable(1), variable(2), atom(string([]byte("ef"))), variable(0)}
	row[4] = row[3]
	first, _ := expr.All(vars, row...)
	second, _ := expr.All(vars, row...)
	met := map[*byte]int{}
	texts := 0
	for _, v := range slices.Concat(vars, []api.Value{row[3].Value}, first, second) {
		if v.Kind == api.Name {
			texts++
			met[place(v.Text)]++
		}
	}
	for _, e := range row {
		v, _ := expr.Eval(e, vars)
		if v.Kind == api.Name {
			texts++
			met[place(v.Text)]++
		}
	}
	if len(met) != texts {
		t.Errorf("%d texts at %d places", texts, len(met))
	}
	clear(first[:cap(first)])
	if !slices.Equal(second, []api.Value{name("ab"), number(1), name("cd"), name("ef"), name("ef")}) || !slices.Equal(vars, []api.Value{name("ab"), number(1), name("cd")}) {
		t.Errorf("%v, %v", second, vars)
	}
	clear(vars)
	if second[0] != name("ab") || second[2] != name("cd") {
		t.Errorf("%v", second)
	}
}

// R3: what stands behind the rows that are handed in stays as it is, and plays no part.
func TestBehindRows(t *testing.T) {
	vars := numbers(1, 2, 3, 4)
	kids := []api.Expr{variable(0), variable(1), beyond(), mixed()}
	row := []api.Expr{op(api.OpAdd, kids[:2]...), op(api.OpMul, kids[:2]...), spoilt(), one(1)}
	aheadVars, aheadKids, aheadRow := slices.Clone(vars), deepRow(kids), deepRow(row)
	for range 3 {
		if l, err := expr.All(vars[:2], row[:2]...); !slices.Equal(l, numbers(3, 2)) || err != api.OK {
			t.Errorf("%v, %v", l, err)
		}
		if l, err := expr.All(vars[:1], row[:3]...); len(l) != 0 || err != api.ErrArg {
			t.Errorf("%v, %v", l, err)
		}
		if v, err := expr.Eval(row[0], vars[:3]); v != number(3) || err != api.OK {
			t.Errorf("%v, %v", v, err)
		}
	}
	if !slices.Equal(vars, aheadVars) || !reflect.DeepEqual(kids, aheadKids) || !reflect.DeepEqual(row, aheadRow) {
		t.Errorf("%v, %v, %v", vars, kids, row)
	}
}

// R4: a call tells what it told ahead, whatever was asked between, also of one row of which one part was turned.
func TestNothingIsKept(t *testing.T) {
	kids := []api.Expr{variable(0), one(1)}
	e := op(api.OpMul, op(api.OpAdd, kids...), op(api.OpSub, kids...))
	mustSay(t, e, numbers(5), number(24))
	mustSay(t, e, numbers(6), number(35))
	kids[1] = one(2)
	mustSay(t, e, numbers(6), number(32))
	kids[1] = beyond()
	mustFail(t, e, numbers(6), api.ErrOverflow)
	kids[1] = one(1)
	mustSay(t, e, numbers(5), number(24))
}
