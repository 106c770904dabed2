package check_test

import (
	"math"
	"slices"
	"strconv"
	"strings"
	"testing"

	"ropewalk/api"
	"ropewalk/check"
)

// mustTell holds what Right tells of r against want, each time; r stays as it is.
func mustTell(t *testing.T, r api.Rules, want bool) {
	t.Helper()
	before := deep(r)
	for range 2 {
		if check.Right(r) != want {
			t.Errorf("%s: not %v", brief(r), want)
		}
	}
	if !alike(r, before) {
		t.Errorf("%s was changed to %s", brief(before), brief(r))
	}
}

// ruled are rules of one that has these.
func ruled(vars int, conds []api.Cond, acts ...api.Act) api.Rules {
	return rules(api.Rule{Name: "r", Vars: vars, Conds: conds, Acts: acts})
}

// mustTellPart holds a condition, behind one that binds 0 and 1, against want. It binds so many more.
func mustTellPart(t *testing.T, c api.Cond, binds int, want bool) {
	t.Helper()
	ahead := fact(0, bind(0), bind(1))
	mustTell(t, ruled(2+binds, []api.Cond{ahead, c}), want)
	mustTell(t, ruled(2+binds, []api.Cond{not(1), ahead, fact(1), c, test(one(1))}, halt()), want)
}

// mustTellAct holds an action, behind conditions of which two ask for facts, and bind 0 and 1, against want.
func mustTellAct(t *testing.T, a api.Act, want bool) {
	t.Helper()
	conds := []api.Cond{fact(0, bind(0), bind(1)), not(1), fact(1), test(one(1))}
	mustTell(t, ruled(2, conds, a), want)
	mustTell(t, ruled(2, conds, halt(), a, retract(1)), want)
}

// mustTellExpr holds an expression, wherever one may stand, over the variables 0 and 1, against want.
func mustTellExpr(t *testing.T, x api.Expr, want bool) {
	t.Helper()
	mustTellPart(t, test(x), 0, want)
	mustTellPart(t, test(op(api.OpNot, x)), 0, want)
	mustTellAct(t, say(x), want)
	mustTellAct(t, say(one(1), x, one(1)), want)
	mustTellAct(t, assert(0, x, one(1)), want)
	mustTellAct(t, assert(0, one(1), op(api.OpLe, op(api.OpMul, one(1), x), variable(1))), want)
	mustTellAct(t, assert(0, one(1), op(api.OpLe, x, op(api.OpNeg, one(1)))), want)
}

// wrongValues are such as no fact has.
func wrongValues() []api.Value {
	return []api.Value{
		{}, {Num: 1}, {Text: "a"}, {Kind: 3}, {Kind: 3, Num: 1}, {Kind: 255, Text: "a"}, {Kind: api.Int, Text: "a"}, {Kind: api.Int, Num: 1, Text: "a"}, {Kind: api.Int, Text: "1"},
		{Kind: api.Name}, {Kind: api.Name, Num: 1}, {Kind: api.Name, Num: 1, Text: "a"}, {Kind: api.Name, Num: -1, Text: "a"}, name("A"), name("1"), name("_"), name("a b"), name("'a"), name("a123456789012345678901234"), name("-"), name("a\n"),
	}
}

func rightValues() []api.Value {
	return []api.Value{number(0), number(1), number(-1), number(most), number(math.MinInt64), name("a"), name("z_9"), name("rule"), name("not"), name("a12345678901234567890123")}
}

// names are texts that are names, which words are, too, and such as are none.
func names() (right, wrong []string) {
	right = append(right, "a", "z", "hive", "a_", "a0", "z9_", "a__b", strings.Repeat("ab_0", 6), strings.Repeat("z", 24), "fact", "rule", "salience", "not", "test", "assert", "retract", "say", "halt", "and", "or")
	wrong = append(wrong, "", " ", "A", "aB", "_", "_a", "0", "0a", "1", "-", "-a", "a-", "a b", "a ", " a", "a\t", "a\n", "\na", "a\r", "a#", "a#b", "#", "?a", "'a", "a'", "a;", "a(", "(", "a\x00", "\x00a", "\xff", "a\xff", "ä", "aä", "a.b", "a!", "?", "'", "`", "a{", strings.Repeat("ab_0", 6)+"c", strings.Repeat("a", 25), strings.Repeat("a", 26), strings.Repeat("a", api.MaxSource-1), strings.Repeat("a", api.MaxSource), strings.Repeat("a", 1<<20))
	return right, wrong
}

// P8.3: names of types and rules, no two of one.
func TestRightNames(t *testing.T) {
	right, wrong := names()
	for want, l := range map[bool][]string{true: right, false: wrong} {
		for _, text := range l {
			mustTell(t, api.Rules{Types: []api.Type{{Name: text}}}, want)
			mustTell(t, api.Rules{Types: []api.Type{{Name: "b"}, {Name: text}, {Name: "c"}}}, want)
			mustTell(t, api.Rules{Rules: []api.Rule{{Name: text}}}, want)
			mustTell(t, api.Rules{Rules: []api.Rule{{Name: "b"}, {Name: "c"}, {Name: text}}}, want)
			mustTellPart(t, fact(0, is(name(text)), blank()), 0, want)
			mustTellPart(t, not(0, blank(), is(name(text))), 0, want)
			mustTellExpr(t, constant(name(text)), want)
		}
	}
	for _, l := range [][]string{{"a", "a"}, {"a", "b", "a"}, {"b", "a", "a"}, {"a", "b", "b", "c"}} {
		var types, declared api.Rules
		for _, text := range l {
			types.Types = append(types.Types, api.Type{Name: text, Fields: len(types.Types)})
			declared.Rules = append(declared.Rules, api.Rule{Name: text, Salience: len(declared.Rules)})
		}
		mustTell(t, types, false)
		mustTell(t, declared, false)
	}
	mustTell(t, api.Rules{Types: []api.Type{{Name: "a"}, {Name: "b"}}, Rules: []api.Rule{{Name: "b"}, {Name: "a"}}}, true)
}

// P8.3: how many types and rules there may be, fields, conditions and actions, and from which salience to which one.
func TestRightNumbers(t *testing.T) {
	for _, many := range []int{0, 1, 31, 32, 33, 63, 64, 65, 1000} {
		var types, declared api.Rules
		for i := range many {
			types.Types = append(types.Types, api.Type{Name: "t" + strconv.Itoa(i)})
			declared.Rules = append(declared.Rules, api.Rule{Name: "r" + strconv.Itoa(i)})
		}
		mustTell(t, types, many <= 32)
		mustTell(t, declared, many <= 64)
	}
	for _, fields := range []int{-1, 0, 1, 5, 6, 7, math.MaxInt, math.MinInt} {
		mustTell(t, api.Rules{Types: []api.Type{{Name: "a", Fields: fields}}}, 0 <= fields && fields <= 6)
		mustTell(t, api.Rules{Types: []api.Type{{Name: "a"}, {Name: "b", Fields: fields}}}, 0 <= fields && fields <= 6)
	}
	for _, salience := range []int{0, 1, -1, 999, 1000, 1001, -999, -1000, -1001, far, -far, math.MaxInt, math.MinInt} {
		mustTell(t, api.Rules{Rules: []api.Rule{{Name: "a", Salience: salience}}}, -1000 <= salience && salience <= 1000)
		mustTell(t, api.Rules{Rules: []api.Rule{{Name: "b"}, {Name: "a", Salience: salience}}}, -1000 <= salience && salience <= 1000)
	}
	for _, many := range []int{0, 1, 7, 8, 9, 10, 5000} {
		for _, c := range []api.Cond{fact(1), not(1), test(one(1))} {
			mustTell(t, ruled(0, slices.Repeat([]api.Cond{c}, many)), many <= 8)
		}
		for _, a := range []api.Act{assert(1), retract(0), say(one(1)), halt()} {
			mustTell(t, ruled(0, []api.Cond{fact(1)}, slices.Repeat([]api.Act{a}, many)...), many <= 8)
		}
	}
	eight := []api.Cond{fact(1), not(1), test(one(1)), fact(1), fact(1), not(1), test(one(1)), fact(1)}
	mustTell(t, ruled(0, eight, slices.Repeat([]api.Act{halt()}, 8)...), true)
	mustTell(t, ruled(0, append(eight, fact(1))), false)
	for _, many := range []int{1, 2, 100, 5000} {
		mustTellAct(t, say(slices.Repeat([]api.Expr{variable(1)}, many)...), true)
	}
}

// binding are conditions of so many arguments that bind, of a type of six fields, which is the third one.
func binding(many int) []api.Cond {
	var l []api.Cond
	for i := range many {
		if i%6 == 0 {
			l = append(l, fact(2, slices.Repeat([]api.Arg{blank()}, 6)...))
		}
		l[len(l)-1].Args[i%6] = bind(i)
	}
	return l
}

// P8.3: Vars, and how many variables there may be.
func TestRightVars(t *testing.T) {
	of := func(vars int, conds []api.Cond, acts ...api.Act) api.Rules {
		r := ruled(vars, conds, acts...)
		r.Types = append(r.Types, api.Type{Name: "s", Fields: 6})
		return r
	}
	for _, many := range []int{0, 1, 2, 6, 7, 12, 15, 16, 17, 18, 24, 48} {
		for _, vars := range []int{many - 1, many, many + 1, 0, -1, 16, 17, math.MaxInt, math.MinInt} {
			mustTell(t, of(vars, binding(many)), vars == many && many <= 16)
			mustTell(t, of(vars, binding(many), halt()), vars == many && many <= 16)
		}
	}
	for v := -2; v < 20; v++ {
		has := 0 <= v && v < 13
		mustTell(t, of(13, append(binding(13), test(variable(v)))), has)
		mustTell(t, of(13, append(binding(13), not(0, same(v), blank()))), has)
		mustTell(t, of(13, append(binding(13), fact(0, same(v), blank()))), has)
		mustTell(t, of(14, append(binding(13), fact(0, bind(v), blank()))), v == 13)
		mustTell(t, of(14, append(binding(13), fact(0, bind(13), same(v)))), 0 <= v && v <= 13)
		mustTell(t, of(14, append(binding(13), fact(0, same(v), bind(13)))), has)
		mustTell(t, of(13, binding(13), say(variable(v))), has)
	}
	mustTell(t, of(0, []api.Cond{fact(0, bind(1), bind(0))}), false)
	mustTell(t, of(2, []api.Cond{fact(0, bind(1), bind(0))}), false)
	mustTell(t, of(2, []api.Cond{fact(0, bind(0), bind(0))}), false)
	mustTell(t, of(1, []api.Cond{fact(0, bind(0), bind(0))}), false)
	mustTell(t, of(2, []api.Cond{fact(0, bind(1), bind(2))}), false)
	mustTell(t, of(1, []api.Cond{test(variable(0)), fact(0, bind(0), blank())}), false)
	mustTell(t, of(1, []api.Cond{not(0, same(0), blank()), fact(0, bind(0), blank())}), false)
	mustTell(t, of(1, []api.Cond{fact(0, same(0), bind(0))}), false)
	// What one rule binds is not bound in another one.
	two := of(2, []api.Cond{fact(0, bind(0), bind(1))}, say(variable(1)))
	for _, other := range []api.Rule{
		{Name: "o", Acts: []api.Act{say(variable(0))}}, {Name: "o", Vars: 2, Acts: []api.Act{say(variable(1))}}, {Name: "o", Conds: []api.Cond{not(0, same(0), same(0))}}, {Name: "o", Vars: 3, Conds: []api.Cond{fact(0, bind(2), blank())}}, {Name: "o", Acts: []api.Act{retract(0)}},
	} {
		mustTell(t, api.Rules{Types: two.Types, Rules: []api.Rule{two.Rules[0], other}}, false)
		mustTell(t, api.Rules{Types: two.Types, Rules: []api.Rule{other, two.Rules[0]}}, false)
	}
	mustTell(t, api.Rules{Types: two.Types, Rules: []api.Rule{two.Rules[0], {Name: "o", Vars: 1, Conds: []api.Cond{fact(0, bind(0), blank())}, Acts: []api.Act{retract(0), say(variable(0))}}}}, true)
}

// P8.3: conditions that ask for facts, and for none.
func TestRightConditions(t *testing.T) {
	mustTellPart(t, fact(0, bind(2), bind(3)), 2, true)
	mustTellPart(t, fact(0, blank(), bind(2)), 1, true)
	mustTellPart(t, fact(0, bind(2), same(2)), 1, true)
	mustTellPart(t, fact(0, same(2), bind(2)), 1, false)
	for _, of := range []func(int, ...api.Arg) api.Cond{fact, not} {
		mustTellPart(t, of(0, same(0), same(1)), 0, true)
		mustTellPart(t, of(0, blank(), same(1)), 0, true)
		mustTellPart(t, of(0, same(0), same(2)), 0, false)
		mustTellPart(t, of(0, same(-1), same(0)), 0, false)
		mustTellPart(t, of(0, same(math.MaxInt), same(0)), 0, false)
		mustTellPart(t, of(0, same(math.MinInt), same(0)), 0, false)
		mustTellPart(t, of(1), 0, true)
		// Other types, and arguments that are too many or too few.
		for place := -2; place < 5; place++ {
			mustTellPart(t, of(place), 0, place == 1)
			mustTellPart(t, of(place, blank()), 0, false)
			mustTellPart(t, of(place, blank(), blank()), 0, place == 0)
			mustTellPart(t, of(place, blank(), blank(), blank()), 0, false)
		}
		mustTellPart(t, of(math.MaxInt), 0, false)
		mustTellPart(t, of(math.MinInt), 0, false)
		mustTellPart(t, of(0, slices.Repeat([]api.Arg{blank()}, 1000)...), 0, false)
		// Other fields, and other kinds.
		for _, x := range []api.Expr{one(1), one(0), variable(0), op(api.OpNot, one(1)), {Kind: 1}, {Value: number(0)}, {Value: api.Value{Num: 1}}, {Value: api.Value{Text: "a"}}, {Var: 1}, {Op: 1}, {Kids: []api.Expr{{}}}} {
			c := of(1)
			c.Test = x
			mustTellPart(t, c, 0, false)
			c = of(0, same(0), blank())
			c.Test = x
			mustTellPart(t, c, 0, false)
		}
		for kind := range 256 {
			c := of(1)
			c.Kind = api.CondKind(kind)
			mustTellPart(t, c, 0, c.Kind == api.CondFact || c.Kind == api.CondNot)
		}
	}
	mustTellPart(t, not(0, bind(2), blank()), 1, false)
	mustTellPart(t, not(0, blank(), bind(2)), 1, false)
	mustTellPart(t, not(0, bind(2), blank()), 0, false)
	mustTellPart(t, not(0, bind(0), blank()), 0, false)
	mustTellPart(t, not(0, same(0), bind(0)), 0, false)
}

// P8.3: tests.
func TestRightTests(t *testing.T) {
	mustTellPart(t, test(variable(1)), 0, true)
	for kind := range 256 {
		c := test(variable(0))
		c.Kind = api.CondKind(kind)
		mustTellPart(t, c, 0, c.Kind == api.CondTest)
	}
	mustTellPart(t, test(api.Expr{}), 0, false)
	mustTellPart(t, api.Cond{}, 0, false)
	for _, place := range []int{1, -1, 2, math.MaxInt} {
		c := test(one(1))
		c.Type = place
		mustTellPart(t, c, 0, false)
	}
	for _, args := range [][]api.Arg{{{}}, {blank()}, {same(0)}, {is(number(1))}, {blank(), blank()}} {
		c := test(one(1))
		c.Args = args
		mustTellPart(t, c, 0, false)
	}
	c := test(one(1))
	c.Args = []api.Arg{bind(2)}
	mustTellPart(t, c, 1, false)
	c.Args = []api.Arg{}
	mustTellPart(t, c, 0, true)
}

// P8.3: arguments of conditions.
func TestRightArguments(t *testing.T) {
	mustTellArg := func(a api.Arg, want bool) {
		t.Helper()
		mustTellPart(t, fact(0, a, blank()), 0, want)
		mustTellPart(t, fact(0, blank(), a), 0, want)
		mustTellPart(t, not(0, a, same(1)), 0, want)
		mustTellPart(t, not(0, is(number(1)), a), 0, want)
	}
	for _, v := range rightValues() {
		mustTellArg(is(v), true)
	}
	for _, v := range wrongValues() {
		mustTellArg(is(v), false)
	}
	for kind := range 256 {
		mustTellArg(api.Arg{Kind: api.ArgKind(kind)}, kind == 1 || kind == 3)
		mustTellArg(api.Arg{Kind: api.ArgKind(kind), Var: 1}, kind == 3)
		mustTellArg(api.Arg{Kind: api.ArgKind(kind), Value: number(0)}, kind == 4)
		mustTellArg(api.Arg{Kind: api.ArgKind(kind), Value: name("a")}, kind == 4)
		mustTellArg(api.Arg{Kind: api.ArgKind(kind), Var: 1, Value: number(1)}, false)
	}
	for _, v := range append(wrongValues()[1:], rightValues()...) {
		mustTellArg(api.Arg{Kind: api.ArgAny, Value: v}, false)
		mustTellArg(api.Arg{Kind: api.ArgVar, Value: v}, false)
		mustTellPart(t, fact(0, api.Arg{Kind: api.ArgBind, Var: 2, Value: v}, blank()), 1, false)
	}
	for _, v := range []int{1, -1, 2, 15, math.MaxInt, math.MinInt} {
		mustTellArg(api.Arg{Kind: api.ArgAny, Var: v}, false)
		mustTellArg(api.Arg{Kind: api.ArgConst, Var: v, Value: number(1)}, false)
	}
}

// P8.3: actions.
func TestRightActions(t *testing.T) {
	x := variable(1)
	mustTellAct(t, assert(1), true)
	mustTellAct(t, assert(0, x, one(1)), true)
	for place := -2; place < 5; place++ {
		mustTellAct(t, assert(place), place == 1)
		mustTellAct(t, assert(place, x), false)
		mustTellAct(t, assert(place, x, x), place == 0)
		mustTellAct(t, assert(place, x, x, x), false)
	}
	for _, which := range []int{-1, 0, 1, 2, 3, 4, math.MaxInt, math.MinInt} {
		mustTellAct(t, retract(which), which == 0 || which == 1)
	}
	for facts := range 9 {
		conds := append(slices.Repeat([]api.Cond{fact(1)}, facts), slices.Repeat([]api.Cond{not(1)}, 8-facts)...)
		for which := -1; which < 10; which++ {
			mustTell(t, ruled(0, conds, retract(which)), 0 <= which && which < facts)
		}
	}
	mustTellAct(t, say(), false)
	mustTellAct(t, api.Act{Kind: api.ActSay, Exprs: []api.Expr{}}, false)
	mustTellAct(t, api.Act{Kind: api.ActHalt, Exprs: []api.Expr{}}, true)
	for kind := range 256 {
		k := api.ActKind(kind)
		mustTellAct(t, api.Act{Kind: k}, k == api.ActRetract || k == api.ActHalt)
		mustTellAct(t, api.Act{Kind: k, Type: 1}, k == api.ActAssert)
		mustTellAct(t, api.Act{Kind: k, Which: 1}, k == api.ActRetract)
		mustTellAct(t, api.Act{Kind: k, Exprs: []api.Expr{x}}, k == api.ActSay)
		mustTellAct(t, api.Act{Kind: k, Exprs: []api.Expr{x, x}}, k == api.ActSay || k == api.ActAssert)
		mustTellAct(t, api.Act{Kind: k, Type: 1, Which: 1}, false)
		mustTellAct(t, api.Act{Kind: k, Type: 1, Exprs: []api.Expr{x}}, false)
		mustTellAct(t, api.Act{Kind: k, Which: 1, Exprs: []api.Expr{x, x}}, false)
		mustTellAct(t, api.Act{Kind: k, Which: -1, Exprs: []api.Expr{x}}, false)
		mustTellAct(t, api.Act{Kind: k, Type: -1, Exprs: []api.Expr{x}}, false)
		mustTellAct(t, api.Act{Kind: k, Type: -1}, false)
		mustTellAct(t, api.Act{Kind: k, Which: -1}, false)
	}
}

// P8.3: expressions, of their kinds and fields.
func TestRightExpressions(t *testing.T) {
	for _, v := range rightValues() {
		mustTellExpr(t, constant(v), true)
		mustTellExpr(t, api.Expr{Kind: api.ExprVar, Value: v}, false)
		mustTellExpr(t, api.Expr{Kind: api.ExprOp, Op: api.OpNot, Value: v, Kids: []api.Expr{one(1)}}, false)
	}
	for _, v := range wrongValues() {
		mustTellExpr(t, constant(v), false)
	}
	for _, v := range wrongValues()[1:] {
		mustTellExpr(t, api.Expr{Kind: api.ExprVar, Value: v}, false)
		mustTellExpr(t, api.Expr{Kind: api.ExprOp, Op: api.OpNot, Value: v, Kids: []api.Expr{one(1)}}, false)
	}
	for _, v := range []int{-1, 0, 1, 2, 3, 15, 16, math.MaxInt, math.MinInt} {
		mustTellExpr(t, variable(v), v == 0 || v == 1)
		mustTellExpr(t, api.Expr{Kind: api.ExprConst, Var: v, Value: number(1)}, v == 0)
		mustTellExpr(t, api.Expr{Kind: api.ExprOp, Op: api.OpNot, Var: v, Kids: []api.Expr{one(1)}}, v == 0)
	}
	for kind := range 256 {
		k := api.ExprKind(kind)
		mustTellExpr(t, api.Expr{Kind: k}, k == api.ExprVar)
		mustTellExpr(t, api.Expr{Kind: k, Var: 1}, k == api.ExprVar)
		mustTellExpr(t, api.Expr{Kind: k, Value: number(0)}, k == api.ExprConst)
		mustTellExpr(t, api.Expr{Kind: k, Op: api.OpNeg, Kids: []api.Expr{one(1)}}, k == api.ExprOp)
		mustTellExpr(t, api.Expr{Kind: k, Kids: []api.Expr{one(1)}}, false)
		mustTellExpr(t, api.Expr{Kind: k, Op: api.OpNeg}, false)
		mustTellExpr(t, api.Expr{Kind: k, Kids: []api.Expr{}}, k == api.ExprVar)
	}
	mustTellExpr(t, api.Expr{Kind: api.ExprConst, Value: number(1), Op: api.OpAdd}, false)
	mustTellExpr(t, api.Expr{Kind: api.ExprConst, Value: number(1), Kids: []api.Expr{one(1)}}, false)
	mustTellExpr(t, api.Expr{Kind: api.ExprVar, Kids: []api.Expr{one(1)}}, false)
	mustTellExpr(t, api.Expr{Kind: api.ExprVar, Op: api.OpNot, Kids: []api.Expr{one(1)}}, false)
}

// P8.3: operators, and how many Kids they have.
func TestRightOperators(t *testing.T) {
	for _, k := range []api.Op{0, 1, 2, 3, 4, 5, 6, 7, 8, 9, 10, 11, 12, 13, 64, 255} {
		ofOne := k == api.OpNeg || k == api.OpNot
		ofTwo := api.OpAdd <= k && k <= api.OpNot && !ofOne
		for kids := range 5 {
			l := slices.Repeat([]api.Expr{variable(1)}, kids)
			mustTellExpr(t, op(k, l...), ofOne && kids == 1 || ofTwo && kids == 2)
		}
		mustTellExpr(t, op(k, one(1), api.Expr{}), false)
		mustTellExpr(t, op(k, api.Expr{}, one(1)), false)
		mustTellExpr(t, op(k, api.Expr{}), false)
		mustTellExpr(t, op(k, variable(2), one(1)), false)
		mustTellExpr(t, op(k, one(1), variable(-1)), false)
		mustTellExpr(t, op(k, variable(2)), false)
	}
	mustTellExpr(t, op(api.OpAdd, slices.Repeat([]api.Expr{one(1)}, 10000)...), false)
}

// below nests x so often, by of.
func below(x api.Expr, often int, of func(api.Expr) api.Expr) api.Expr {
	for range often {
		x = of(x)
	}
	return x
}

// P8.3 with R1: expressions that no source says, as they are far too deep: the chapter names no limit.
func TestRightDeep(t *testing.T) {
	for _, often := range []int{10, 26, 27, 30, 31, 100, 5000} {
		for _, of := range []func(api.Expr) api.Expr{
			func(x api.Expr) api.Expr { return op(api.OpNeg, x) },
			func(x api.Expr) api.Expr { return op(api.OpAdd, x, one(1)) },
			func(x api.Expr) api.Expr { return op(api.OpOr, variable(0), x) },
		} {
			for want, last := range map[bool]api.Expr{true: variable(1), false: variable(2)} {
				x := below(last, often, of)
				conds := []api.Cond{fact(0, bind(0), bind(1)), test(x)}
				if check.Right(ruled(2, conds)) != want || check.Right(ruled(2, conds[:1], say(one(1), x))) != want || check.Right(ruled(2, conds[:1], assert(0, x, x))) != want {
					t.Errorf("%d deep: not %v", often, want)
				}
			}
		}
	}
	x := below(one(1), 1000000, func(x api.Expr) api.Expr { return op(api.OpNot, x) })
	if !check.Right(ruled(0, nil, say(x))) {
		t.Error("a deep expression is not right")
	}
}

// P8.3 with R1: expressions that stand in others more than once, as one row; it takes no longer.
func TestRightShared(t *testing.T) {
	double := func(x api.Expr) api.Expr { return op(api.OpMul, x, x) }
	for _, often := range []int{1, 2, 3, 10, 60, 10000} {
		x := below(variable(0), often, double)
		conds := []api.Cond{fact(0, bind(0), blank()), test(x)}
		mustBeSo := func(r api.Rules, want bool) {
			t.Helper()
			if check.Right(r) != want {
				t.Errorf("%d deep: not %v", often, want)
			}
		}
		mustBeSo(ruled(1, conds, say(x, x), assert(0, x, x)), true)
		mustBeSo(ruled(1, []api.Cond{conds[1], conds[0]}), false)
		mustBeSo(ruled(1, []api.Cond{conds[0], test(below(variable(1), often, double))}), false)
		mustBeSo(ruled(1, conds[:1], say(x), say(below(variable(1), often, double))), false)
		two := ruled(1, conds)
		two.Rules = append(two.Rules, api.Rule{Name: "other", Acts: []api.Act{say(x)}})
		mustBeSo(two, false)
		two.Rules[1] = api.Rule{Name: "other", Vars: 1, Conds: conds}
		mustBeSo(two, true)
	}
	// One row, that begins at another place.
	row := []api.Expr{one(1), op(api.OpNot, one(2)), variable(0)}
	mustTellExpr(t, op(api.OpAdd, op(api.OpSub, row[:2]...), op(api.OpMul, row[1:]...)), true)
	mustTellExpr(t, op(api.OpAdd, op(api.OpSub, row[:2]...), op(api.OpMul, row...)), false)
}

// P8.3 with R1: an expression that holds itself is none.
func TestRightRings(t *testing.T) {
	for _, size := range []int{1, 2, 3, 1000} {
		for at := range 2 {
			rows := make([][]api.Expr, size)
			for i := range rows {
				rows[i] = []api.Expr{one(1), one(2)}
			}
			for i := range rows {
				rows[i][at] = op(api.OpAdd, rows[(i+1)%size]...)
			}
			for _, x := range []api.Expr{op(api.OpAdd, rows[0]...), rows[0][at], op(api.OpAnd, one(1), op(api.OpNot, rows[0][at])), op(api.OpNot, op(api.OpOr, rows[size-1]...))} {
				conds := []api.Cond{test(one(1)), test(x)}
				if check.Right(ruled(0, conds)) || check.Right(ruled(0, nil, say(x))) || check.Right(ruled(0, nil, say(one(1), one(2), x), halt())) || check.Right(ruled(0, nil, assert(0, one(1), x))) {
					t.Errorf("a ring of %d is right", size)
				}
			}
		}
	}
}

// P8.3 with R6: lists without elements are none, nil or not.
func TestRightEmpty(t *testing.T) {
	mustTell(t, api.Rules{}, true)
	mustTell(t, api.Rules{Types: []api.Type{}, Rules: []api.Rule{}}, true)
	mustTell(t, api.Rules{Types: []api.Type{{Name: "p"}}, Rules: []api.Rule{{Name: "r", Conds: []api.Cond{}, Acts: []api.Act{}}}}, true)
	conds := []api.Cond{{Kind: api.CondFact, Type: 1, Args: []api.Arg{}, Test: api.Expr{Kids: []api.Expr{}}}, {Kind: api.CondNot, Type: 1, Args: []api.Arg{}}, {Kind: api.CondTest, Args: []api.Arg{}, Test: api.Expr{Kind: api.ExprConst, Value: number(1), Kids: []api.Expr{}}}}
	mustTell(t, ruled(0, conds, api.Act{Kind: api.ActRetract, Exprs: []api.Expr{}}, api.Act{Kind: api.ActAssert, Type: 1, Exprs: []api.Expr{}}), true)
}
