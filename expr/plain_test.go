package expr_test

import (
	"math/big"
	"math/rand"
	"regexp"
	"testing"

	"ropewalk/api"
)

var aName = regexp.MustCompile(`\A[a-z][a-z0-9_]{0,23}\z`)

func isRight(v api.Value) bool {
	return v.Kind == api.Int && v.Text == "" || v.Kind == api.Name && v.Num == 0 && aName.MatchString(v.Text)
}

// plainly tells what e says as the chapter's words say it.
func plainly(e api.Expr, vars []api.Value) (api.Value, api.Errno) {
	told := api.Value{}
	switch {
	case e.Kind == api.ExprConst:
		told = e.Value
	case e.Kind == api.ExprVar && 0 <= e.Var && e.Var < len(vars):
		told = vars[e.Var]
	case e.Kind == api.ExprOp:
		l, err := plainlyAll(vars, e.Kids)
		if err != api.OK {
			return api.Value{}, err
		}
		return plainlyDone(e.Op, l)
	}
	if !isRight(told) {
		return api.Value{}, api.ErrArg
	}
	return told, api.OK
}

func plainlyAll(vars []api.Value, exprs []api.Expr) ([]api.Value, api.Errno) {
	var l []api.Value
	for _, e := range exprs {
		v, err := plainly(e, vars)
		if err != api.OK {
			return nil, err
		}
		l = append(l, v)
	}
	return l, api.OK
}

// plainlyDone tells what op makes of right values, by numbers of any length.
func plainlyDone(o api.Op, l []api.Value) (api.Value, api.Errno) {
	if o < 1 || o > 11 || ofOne(o) && len(l) != 1 || !ofOne(o) && len(l) != 2 {
		return api.Value{}, api.ErrArg
	}
	if o == api.OpEq || o == api.OpNe {
		return number(truth((l[0] == l[1]) == (o == api.OpEq)).Int64()), api.OK
	}
	for _, v := range l {
		if v.Kind == api.Name {
			return api.Value{}, api.ErrKind
		}
	}
	n := exact(o, big.NewInt(l[0].Num), big.NewInt(l[len(l)-1].Num))
	if !n.IsInt64() {
		return api.Value{}, api.ErrOverflow
	}
	return number(n.Int64()), api.OK
}

func truth(is bool) *big.Int {
	if is {
		return big.NewInt(1)
	}
	return new(big.Int)
}

func exact(o api.Op, a, b *big.Int) *big.Int {
	n := new(big.Int)
	switch o {
	case api.OpAdd:
		return n.Add(a, b)
	case api.OpSub:
		return n.Sub(a, b)
	case api.OpMul:
		return n.Mul(a, b)
	case api.OpNeg:
		return n.Neg(a)
	case api.OpLt:
		return truth(a.Cmp(b) < 0)
	case api.OpLe:
		return truth(a.Cmp(b) <= 0)
	case api.OpAnd:
		return truth(a.Sign() != 0 && b.Sign() != 0)
	case api.OpOr:
		return truth(a.Sign() != 0 || b.Sign() != 0)
	}
	return truth(a.Sign() == 0)
}

// mustAgree holds what is told of e against the plain reading.
func mustAgree(t *testing.T, e api.Expr, vars []api.Value) api.Errno {
	t.Helper()
	want, err := plainly(e, vars)
	if err != api.OK {
		mustFail(t, e, vars, err)
	} else {
		mustSay(t, e, vars, want)
	}
	return err
}

// P9.1: each operator over any two values, right or not.
func TestOperatorsPlainly(t *testing.T) {
	l := append(rightValues(), api.Value{}, name("A"), api.Value{Kind: api.Int, Text: "1"})
	for _, o := range operators() {
		for _, a := range l {
			mustAgree(t, op(o, constant(a)), nil)
			for _, b := range l {
				mustAgree(t, op(o, constant(a), constant(b)), nil)
				mustAgree(t, op(o, variable(1), variable(0)), []api.Value{b, a})
				mustAgree(t, op(o, op(api.OpEq, constant(a), variable(0)), op(o, constant(a), variable(0))), []api.Value{b})
			}
		}
	}
}

// kids are expressions that say something, or meet an error, each in its own way.
func kids() []api.Expr {
	return []api.Expr{one(3), atom("a"), variable(0), beyond(), mixed(), spoilt(), variable(1), {}, op(api.OpNeg), op(0, beyond()), {Kind: 4, Kids: []api.Expr{mixed()}}}
}

// P9.1: operators, and what is none, over no Kids to three of any sort: Kids' errors come from left to right, and ahead of the operator's own.
func TestErrorsPlainly(t *testing.T) {
	met := map[api.Errno]int{}
	vars := numbers(0)
	for _, o := range append(operators(), 0, 12, 13, 255) {
		met[mustAgree(t, op(o), vars)]++
		for _, a := range kids() {
			met[mustAgree(t, op(o, a), vars)]++
			met[mustAgree(t, op(api.OpAdd, op(o, a), beyond()), vars)]++
			for _, b := range kids() {
				met[mustAgree(t, op(o, a, b), vars)]++
				met[mustAgree(t, op(api.OpEq, op(o, a, b), mixed()), vars)]++
				for _, c := range kids() {
					met[mustAgree(t, op(o, a, b, c), vars)]++
				}
			}
		}
	}
	for _, err := range []api.Errno{api.OK, api.ErrArg, api.ErrKind, api.ErrOverflow} {
		if met[err] < 10 {
			t.Errorf("%v was met %d times", err, met[err])
		}
	}
}

// chance makes expressions and values; wrong is how many of a hundred are.
type chance struct {
	*rand.Rand
	wrong int
}

func (c chance) oneOf(l []api.Value) api.Value { return l[c.Intn(len(l))] }

func (c chance) value() api.Value {
	switch {
	case c.Intn(100) < c.wrong:
		return c.oneOf(wrongValues())
	case c.Intn(2) == 0:
		return c.oneOf(rightValues())
	case c.Intn(10) == 0:
		return name(string(rune('a' + c.Intn(3))))
	}
	return number(int64(c.Intn(9)) - 4)
}

func (c chance) expression(deep int) api.Expr {
	if c.Intn(100) < c.wrong {
		return api.Expr{Kind: api.ExprKind(c.Intn(6)), Value: c.value(), Var: c.Intn(9) - 2, Op: api.Op(c.Intn(14)), Kids: c.row(c.Intn(4), deep-1)}
	}
	switch {
	case deep > 0 && c.Intn(5) > 0:
		o := operators()[c.Intn(11)]
		if ofOne(o) {
			return op(o, c.row(1, deep-1)...)
		}
		return op(o, c.row(2, deep-1)...)
	case c.Intn(2) == 0:
		return variable(c.Intn(4))
	}
	return constant(c.value())
}

func (c chance) row(many, deep int) []api.Expr {
	var l []api.Expr
	for range many {
		l = append(l, c.expression(max(deep, 0)))
	}
	return l
}

func (c chance) vars() []api.Value {
	var l []api.Value
	for range 4 + c.Intn(3) {
		l = append(l, c.value())
	}
	return l
}

// P9.1, P9.2: any expressions, alone and in rows, against the plain reading.
func TestAnyPlainly(t *testing.T) {
	met := map[api.Errno]int{}
	for i := range 20000 {
		c := chance{rand.New(rand.NewSource(int64(i))), i % 4}
		vars := c.vars()
		row := c.row(c.Intn(5), c.Intn(6))
		for _, e := range row {
			met[mustAgree(t, e, vars)]++
		}
		want, err := plainlyAll(vars, row)
		if err != api.OK {
			mustRefuse(t, vars, err, row...)
		} else {
			mustTell(t, vars, want, row...)
		}
	}
	for _, err := range []api.Errno{api.OK, api.ErrArg, api.ErrKind, api.ErrOverflow} {
		if met[err] < 1000 {
			t.Errorf("%v was met %d times", err, met[err])
		}
	}
}

// asks tells which variables e asks.
func asks(e api.Expr) map[int]bool {
	l := map[int]bool{}
	if e.Kind == api.ExprVar {
		l[e.Var] = true
	}
	if e.Kind == api.ExprOp {
		for _, k := range e.Kids {
			for v := range asks(k) {
				l[v] = true
			}
		}
	}
	return l
}

// P9.3: variables that are not in an expression play no part, whatever their values, and however many stand behind those that are.
func TestOtherVariables(t *testing.T) {
	for i := range 5000 {
		c := chance{rand.New(rand.NewSource(int64(i))), i % 2}
		vars := c.vars()
		e := c.expression(4)
		turned := append(c.vars()[:0:0], vars...)
		in := asks(e)
		for v := range turned {
			if !in[v] {
				turned[v] = c.oneOf(append(wrongValues(), rightValues()...))
			}
		}
		last := 0
		for v := range in {
			last = max(last, v+1)
		}
		want, err := eval(t, e, vars)
		for _, others := range [][]api.Value{turned, append(turned[:len(turned):len(turned)], number(8)), turned[:min(last, len(turned))]} {
			if len(others) > len(turned) && last > len(turned) {
				continue // it asks one that there is now
			}
			if v, other := eval(t, e, others); v != want || other != err {
				t.Errorf("%s over %s: %v, %v; over %s: %v, %v", brief(e), brief(vars), want, err, brief(others), v, other)
			}
		}
	}
}
