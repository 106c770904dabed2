package expr_test

import (
	"fmt"
	"math"
	"reflect"
	"slices"
	"strings"
	"testing"

	"ropewalk/api"
	"ropewalk/check"
	"ropewalk/expr"
	"ropewalk/value"
)

const (
	most  = math.MaxInt64
	least = math.MinInt64
)

func number(n int64) api.Value { return api.Value{Kind: api.Int, Num: n} }

func name(text string) api.Value { return api.Value{Kind: api.Name, Text: text} }

func numbers(l ...int64) []api.Value {
	var vars []api.Value
	for _, n := range l {
		vars = append(vars, number(n))
	}
	return vars
}

func constant(v api.Value) api.Expr { return api.Expr{Kind: api.ExprConst, Value: v} }

func one(n int64) api.Expr { return constant(number(n)) }

func atom(text string) api.Expr { return constant(name(text)) }

func variable(n int) api.Expr { return api.Expr{Kind: api.ExprVar, Var: n} }

func op(o api.Op, kids ...api.Expr) api.Expr { return api.Expr{Kind: api.ExprOp, Op: o, Kids: kids} }

// Expressions that say nothing, each by an error of its own.
func beyond() api.Expr { return op(api.OpAdd, one(most), one(1)) }

func mixed() api.Expr { return op(api.OpLt, one(1), atom("a")) }

func spoilt() api.Expr { return constant(api.Value{}) }

func operators() []api.Op {
	return []api.Op{api.OpAdd, api.OpSub, api.OpMul, api.OpNeg, api.OpEq, api.OpNe, api.OpLt, api.OpLe, api.OpAnd, api.OpOr, api.OpNot}
}

func ofOne(o api.Op) bool { return o == api.OpNeg || o == api.OpNot }

func rightValues() []api.Value {
	return []api.Value{
		number(least), number(least + 1), number(-1 << 32), number(-3037000500), number(-2), number(-1), number(0), number(1), number(2), number(3037000499), number(1 << 31), number(1 << 32), number(most - 1), number(most),
		name("a"), name("b"), name("a_1"), name("rule"), name("not"), name(strings.Repeat("z", api.MaxName)),
	}
}

func wrongValues() []api.Value {
	return []api.Value{
		{}, {Num: 1}, {Text: "a"}, {Kind: 3}, {Kind: 3, Num: 1}, {Kind: 255, Text: "a"}, {Kind: api.Int, Text: "a"}, {Kind: api.Int, Num: 1, Text: "1"},
		{Kind: api.Name}, {Kind: api.Name, Num: 1}, {Kind: api.Name, Num: -1, Text: "a"}, name("A"), name("1a"), name("_"), name("a b"), name("'a"), name("a\n"), name("ä"), name(strings.Repeat("z", api.MaxName+1)),
	}
}

// brief is v as a text for a test's report, cut where it is long.
func brief(v any) string { return fmt.Sprintf("%.1000s", fmt.Sprintf("%+v", v)) }

// deep is an expression in memory of its own.
func deep(e api.Expr) api.Expr {
	e.Kids = deepRow(e.Kids)
	return e
}

func deepRow(l []api.Expr) []api.Expr {
	own := slices.Clone(l)
	for i, e := range own {
		own[i] = deep(e)
	}
	return own
}

// eval is what Eval tells: right, or zero beside an error; the same each time, and by All; e and vars stay as they are.
func eval(t *testing.T, e api.Expr, vars []api.Value) (api.Value, api.Errno) {
	t.Helper()
	ahead, aheadVars := deep(e), slices.Clone(vars)
	v, err := expr.Eval(e, vars)
	if again, errAgain := expr.Eval(e, vars); again != v || errAgain != err {
		t.Errorf("%s over %s: %v, %v; then %v, %v", brief(e), brief(vars), v, err, again, errAgain)
	}
	want := []api.Value{v}
	if err != api.OK {
		want = nil
	}
	if l, errAll := expr.All(vars, e); !slices.Equal(l, want) || errAll != err {
		t.Errorf("%s over %s: %v, %v; by All %v, %v", brief(e), brief(vars), v, err, l, errAll)
	}
	if err == api.OK && !value.Right(v) || err != api.OK && v != (api.Value{}) {
		t.Errorf("%s over %s: %v, %v", brief(e), brief(vars), v, err)
	}
	if !reflect.DeepEqual(e, ahead) || !slices.Equal(vars, aheadVars) {
		t.Errorf("%s over %s was changed to %s over %s", brief(ahead), brief(aheadVars), brief(e), brief(vars))
	}
	return v, err
}

func mustSay(t *testing.T, e api.Expr, vars []api.Value, want api.Value) {
	t.Helper()
	if v, err := eval(t, e, vars); v != want || err != api.OK {
		t.Errorf("%s over %s: %v, %v, not %v", brief(e), brief(vars), v, err, want)
	}
}

func mustFail(t *testing.T, e api.Expr, vars []api.Value, want api.Errno) {
	t.Helper()
	if v, err := eval(t, e, vars); v != (api.Value{}) || err != want {
		t.Errorf("%s over %s: %v, %v, not %v", brief(e), brief(vars), v, err, want)
	}
}

// P9.1: the chapter's examples.
func TestExamples(t *testing.T) {
	mustSay(t, op(api.OpAdd, op(api.OpMul, one(2), variable(0)), one(1)), numbers(20), number(41))
	mustFail(t, variable(1), numbers(20), api.ErrArg)
	mustFail(t, op(api.OpEq, op(api.OpAdd, one(most), one(1)), one(1)), nil, api.ErrOverflow)
	mustFail(t, op(api.OpLt, one(1), atom("a")), nil, api.ErrKind)
}

// P9.1: constants and variables say their values.
func TestValues(t *testing.T) {
	for _, v := range rightValues() {
		mustSay(t, constant(v), nil, v)
		mustSay(t, constant(v), wrongValues(), v)
		mustSay(t, variable(0), []api.Value{v}, v)
		mustSay(t, variable(1), []api.Value{{}, v, {}}, v)
	}
}

// P9.1: what no fact may have, no expression says: neither a constant nor a variable, alone or below an operator.
func TestWrongValues(t *testing.T) {
	for _, v := range append(wrongValues(), name(strings.Repeat("z", 1<<20))) {
		vars := []api.Value{number(1), v, number(2)}
		for _, e := range []api.Expr{constant(v), variable(1)} {
			mustFail(t, e, vars, api.ErrArg)
			for _, o := range operators() {
				mustFail(t, op(o, e), vars, api.ErrArg)
				mustFail(t, op(o, e, variable(0)), vars, api.ErrArg)
				mustFail(t, op(o, variable(2), e), vars, api.ErrArg)
			}
		}
		mustSay(t, op(api.OpSub, variable(0), variable(2)), vars, number(-1))
	}
}

// P9.1: which variables there are.
func TestVariables(t *testing.T) {
	for _, many := range []int{0, 1, 2, 15, 16, 17, 1000} {
		var vars []api.Value
		for i := range many {
			vars = append(vars, number(int64(i)*7-3))
		}
		for _, at := range []int{math.MinInt, -many - 1, -many, -2, -1, 0, 1, many / 2, many - 2, many - 1, many, many + 1, 2 * many, 256, 1 << 32, math.MaxInt} {
			double := op(api.OpAdd, variable(at), variable(at))
			if at < 0 || at >= many {
				mustFail(t, variable(at), vars, api.ErrArg)
				mustFail(t, double, vars, api.ErrArg)
				mustFail(t, variable(at), vars[:many:many], api.ErrArg)
				continue
			}
			mustSay(t, variable(at), vars, number(int64(at)*7-3))
			mustSay(t, double, vars, number(int64(at)*14-6))
		}
	}
	// What stands behind the row's end is no variable.
	vars := numbers(1, 2, 3)
	mustFail(t, variable(2), vars[:2], api.ErrArg)
	mustFail(t, variable(0), vars[:0], api.ErrArg)
	mustSay(t, variable(0), vars[2:], number(3))
}

// P9.1: each operator, of constants, of variables, and of what others say.
func TestOperators(t *testing.T) {
	for _, c := range []struct {
		o    api.Op
		kids []api.Value
		want api.Value
		err  api.Errno
	}{
		{api.OpAdd, numbers(2, 3), number(5), api.OK},
		{api.OpAdd, numbers(least, most), number(-1), api.OK},
		{api.OpAdd, numbers(most, 1), api.Value{}, api.ErrOverflow},
		{api.OpAdd, numbers(least, -1), api.Value{}, api.ErrOverflow},
		{api.OpSub, numbers(2, 3), number(-1), api.OK},
		{api.OpSub, numbers(3, 2), number(1), api.OK},
		{api.OpSub, numbers(-1, least), number(most), api.OK},
		{api.OpSub, numbers(0, least), api.Value{}, api.ErrOverflow},
		{api.OpSub, numbers(least, 1), api.Value{}, api.ErrOverflow},
		{api.OpMul, numbers(-4, 5), number(-20), api.OK},
		{api.OpMul, numbers(1<<32, -1<<31), number(least), api.OK},
		{api.OpMul, numbers(1<<32, 1<<31), api.Value{}, api.ErrOverflow},
		{api.OpMul, numbers(least, -1), api.Value{}, api.ErrOverflow},
		{api.OpNeg, numbers(5), number(-5), api.OK},
		{api.OpNeg, numbers(most), number(-most), api.OK},
		{api.OpNeg, numbers(least), api.Value{}, api.ErrOverflow},
		{api.OpEq, numbers(7, 7), number(1), api.OK},
		{api.OpEq, numbers(7, 8), number(0), api.OK},
		{api.OpEq, []api.Value{name("a"), name("a")}, number(1), api.OK},
		{api.OpEq, []api.Value{name("a"), name("b")}, number(0), api.OK},
		{api.OpEq, []api.Value{name("a"), number(0)}, number(0), api.OK},
		{api.OpNe, numbers(7, 7), number(0), api.OK},
		{api.OpNe, numbers(least, most), number(1), api.OK},
		{api.OpNe, []api.Value{name("a"), name("a")}, number(0), api.OK},
		{api.OpNe, []api.Value{number(0), name("a")}, number(1), api.OK},
		{api.OpLt, numbers(1, 2), number(1), api.OK},
		{api.OpLt, numbers(2, 1), number(0), api.OK},
		{api.OpLt, numbers(2, 2), number(0), api.OK},
		{api.OpLt, numbers(least, most), number(1), api.OK},
		{api.OpLt, []api.Value{name("a"), number(1)}, api.Value{}, api.ErrKind},
		{api.OpLe, numbers(2, 2), number(1), api.OK},
		{api.OpLe, numbers(3, 2), number(0), api.OK},
		{api.OpLe, []api.Value{name("a"), name("a")}, api.Value{}, api.ErrKind},
		{api.OpAnd, numbers(-1, 2), number(1), api.OK},
		{api.OpAnd, numbers(2, 0), number(0), api.OK},
		{api.OpAnd, numbers(0, 2), number(0), api.OK},
		{api.OpAnd, []api.Value{number(0), name("a")}, api.Value{}, api.ErrKind},
		{api.OpOr, numbers(0, least), number(1), api.OK},
		{api.OpOr, numbers(0, 0), number(0), api.OK},
		{api.OpOr, []api.Value{number(1), name("a")}, api.Value{}, api.ErrKind},
		{api.OpNot, numbers(0), number(1), api.OK},
		{api.OpNot, numbers(-7), number(0), api.OK},
		{api.OpNot, []api.Value{name("a")}, api.Value{}, api.ErrKind},
		{api.OpNeg, []api.Value{name("a")}, api.Value{}, api.ErrKind},
		{api.OpAdd, []api.Value{number(1), name("a")}, api.Value{}, api.ErrKind},
		{api.OpSub, []api.Value{name("a"), number(1)}, api.Value{}, api.ErrKind},
		{api.OpMul, []api.Value{name("a"), name("b")}, api.Value{}, api.ErrKind},
	} {
		var constants, variables, said []api.Expr
		for i, v := range c.kids {
			constants = append(constants, constant(v))
			variables = append(variables, variable(i))
			if v.Kind == api.Int {
				said = append(said, op(api.OpSub, constant(v), one(0)))
			} else {
				said = append(said, variable(i))
			}
		}
		for _, kids := range [][]api.Expr{constants, variables, said} {
			if c.err != api.OK {
				mustFail(t, op(c.o, kids...), c.kids, c.err)
			} else {
				mustSay(t, op(c.o, kids...), c.kids, c.want)
			}
		}
	}
}

// says is an expression as a rule says it, over the variables ?a to ?f, which are 0 to 5.
func says(t *testing.T, text string) api.Expr {
	t.Helper()
	r, fault := check.Source("fact p(a, b, c, d, e, f); rule r { p(?a, ?b, ?c, ?d, ?e, ?f); => say " + text + "; }")
	if fault.Err != api.OK {
		t.Fatalf("%q: %v", text, fault)
	}
	return r.Rules[0].Acts[0].Exprs[0]
}

// P9.1: expressions of some depth, over several variables.
func TestExpressions(t *testing.T) {
	vars := append(numbers(3, 4, 5, -2, 0), name("bee"))
	for text, want := range map[string]int64{
		"?a * ?a + ?b * ?b = ?c * ?c":                1,
		"?a - ?b - ?c":                               -6,
		"?a - (?b - ?c)":                             4,
		"2 * (?a + ?b * (?c - ?d * (?a + 7))) + -?d": 2*(3+4*(5+2*10)) + 2,
		"not ?e and not not ?d":                      1,
		"?a < ?b and ?b < ?c and not ?c < ?a or ?e":  1,
		"?c > ?b":                  1,
		"?b > ?c":                  0,
		"?a >= ?a":                 1,
		"?f = 'bee and ?f != 'fly": 1,
		"(?f = 'bee) + (?f = ?f) + (?a != ?f) + (?f = 0)":                3,
		"?a * ?b * ?c * ?d * ?e":                                         0,
		"-(-(-(-(-?a))))":                                                -3,
		"?d * ?d * ?d * ?d * ?d * ?d * ?d * ?d * ?d - ?d":                -512 + 2,
		"(((?a + ?b) * (?a - ?b)) - ((?b + ?c) * (?b - ?c))) * (?c + 0)": 10,
	} {
		mustSay(t, says(t, text), vars, number(want))
	}
	mustSay(t, says(t, "?f"), vars, name("bee"))
	for text, want := range map[string]api.Errno{
		"?a + ?f * ?b":                       api.ErrKind,
		"?a * 9223372036854775807":           api.ErrOverflow,
		"?d * 4611686018427387904 * -?d":     api.ErrOverflow,
		"(?f < ?f) + ?a":                     api.ErrKind,
		"not ?f":                             api.ErrKind,
		"?e and ?f":                          api.ErrKind,
		"?e and 9223372036854775807 + ?a":    api.ErrOverflow,
		"?a or 9223372036854775807 + ?a":     api.ErrOverflow,
		"?a or ?f":                           api.ErrKind,
		"?f + (9223372036854775807 + 1)":     api.ErrOverflow,
		"9223372036854775807 + 1 = 1 + ?f":   api.ErrOverflow,
		"1 + ?f = 9223372036854775807 + 1":   api.ErrKind,
		"-(-9223372036854775807 - 1) - 'a":   api.ErrOverflow,
		"1 - 'a = -(-9223372036854775807)":   api.ErrKind,
		"?a = 1 and 'a < 'b and ?f * ?f":     api.ErrKind,
		"0 * (9223372036854775807 * ?c) + 1": api.ErrOverflow,
	} {
		mustFail(t, says(t, text), vars, want)
	}
}

// P9.1: what is told hangs on the values that the variables have.
func TestOverOthers(t *testing.T) {
	e := says(t, "?a * ?a - ?b")
	for a := int64(-50); a <= 50; a++ {
		for b := int64(-5); b <= 5; b++ {
			mustSay(t, e, numbers(a, b), number(a*a-b))
		}
	}
}

// rowOf is what All tells: as many as there are, or nothing beside an error; the same each time; what is handed in stays as it is.
func rowOf(t *testing.T, vars []api.Value, exprs ...api.Expr) ([]api.Value, api.Errno) {
	t.Helper()
	ahead, aheadVars := deepRow(exprs), slices.Clone(vars)
	l, err := expr.All(vars, exprs...)
	if again, errAgain := expr.All(vars, exprs...); !slices.Equal(again, l) || errAgain != err {
		t.Errorf("%s over %s: %v, %v; then %v, %v", brief(exprs), brief(vars), l, err, again, errAgain)
	}
	if err != api.OK && len(l) != 0 || err == api.OK && len(l) != len(exprs) {
		t.Errorf("%s over %s: %v, %v", brief(exprs), brief(vars), l, err)
	}
	if !reflect.DeepEqual(exprs, ahead) || !slices.Equal(vars, aheadVars) {
		t.Errorf("%s over %s was changed to %s over %s", brief(ahead), brief(aheadVars), brief(exprs), brief(vars))
	}
	return l, err
}

func mustTell(t *testing.T, vars []api.Value, want []api.Value, exprs ...api.Expr) {
	t.Helper()
	if l, err := rowOf(t, vars, exprs...); !slices.Equal(l, want) || err != api.OK {
		t.Errorf("%s over %s: %v, %v, not %v", brief(exprs), brief(vars), l, err, want)
	}
}

func mustRefuse(t *testing.T, vars []api.Value, want api.Errno, exprs ...api.Expr) {
	t.Helper()
	if l, err := rowOf(t, vars, exprs...); len(l) != 0 || err != want {
		t.Errorf("%s over %s: %v, %v, not %v", brief(exprs), brief(vars), l, err, want)
	}
}

// P9.2: rows of none, one, and many, from left to right.
func TestAll(t *testing.T) {
	mustTell(t, nil, nil)
	mustTell(t, nil, nil, []api.Expr{}...)
	mustTell(t, wrongValues(), nil)
	mustTell(t, nil, numbers(7), one(7))
	mustTell(t, []api.Value{name("a"), number(5)}, []api.Value{number(5), name("a"), number(5), number(6), name("b"), number(0)},
		variable(1), variable(0), variable(1), op(api.OpAdd, variable(1), one(1)), atom("b"), op(api.OpEq, variable(0), variable(1)))
	var row []api.Expr
	var want []api.Value
	for i := range 1000 {
		row = append(row, op(api.OpMul, op(api.OpSub, one(int64(i)), variable(i%3)), one(-1)))
		want = append(want, number(int64(i%3)*10-int64(i)))
		mustTell(t, numbers(0, 10, 20), want[i/2:i+1], row[i/2:i+1]...)
	}
}

// P9.2: an error in one expression is that of the row, wherever it stands; the first one of several is told.
func TestAllErrors(t *testing.T) {
	failing := map[api.Errno]api.Expr{api.ErrOverflow: beyond(), api.ErrKind: mixed(), api.ErrArg: spoilt()}
	for err, e := range failing {
		for ahead := range 4 {
			for behind := range 4 {
				row := slices.Concat(slices.Repeat([]api.Expr{one(1)}, ahead), []api.Expr{e}, slices.Repeat([]api.Expr{one(2)}, behind))
				mustRefuse(t, numbers(1), err, row...)
				for _, other := range failing {
					mustRefuse(t, numbers(1), err, append(row, other)...)
					mustRefuse(t, numbers(1), err, append(row, op(api.OpNot, other), one(1))...)
				}
			}
		}
	}
	mustRefuse(t, nil, api.ErrArg, variable(0))
	mustRefuse(t, numbers(1), api.ErrArg, variable(0), variable(1), beyond())
	mustRefuse(t, numbers(1), api.ErrOverflow, variable(0), beyond(), variable(1))
	mustRefuse(t, nil, api.ErrArg, api.Expr{})
}
