package rete_test

import (
	"fmt"
	"math"
	"slices"
	"strings"
	"testing"

	"ropewalk/api"
	"ropewalk/rete"
)

// P13.2: Ids are from 1 to MaxId.
func TestIds(t *testing.T) {
	for _, conditions := range []string{"p(_);", "p(?x); p(?x);", "q(_);", "not none(); p(_);", ""} {
		k := pairOf(t, program(t, conditions))
		for _, id := range []int{0, -1, -2, math.MinInt, api.MaxId + 1, api.MaxId + 2, 1 << 41, math.MaxInt, -api.MaxId, 1 - 1<<32} {
			if err := k.add(p(id, 1)); err != api.ErrArg {
				t.Errorf("%d: %v", id, err)
			}
			if err := k.drop(id); err != api.ErrNone {
				t.Errorf("%d: %v", id, err)
			}
		}
		ids := []int{1 << 32, 1, api.MaxId, 2, 1<<32 + 1, api.MaxId - 1, 1<<31 - 1, 1 << 31}
		for n, id := range ids {
			if err := k.add(p(id, 1)); err != api.OK {
				t.Errorf("%d: %v", id, err)
			}
			for _, other := range ids[n+1:] {
				if err := k.drop(other); err != api.ErrNone {
					t.Errorf("%d: %v", other, err)
				}
			}
		}
		for _, id := range ids {
			if err := k.drop(id); err != api.OK {
				t.Errorf("%d: %v", id, err)
			}
		}
	}
}

// P13.2: a fact's Type is among the rules' Types.
func TestTypes(t *testing.T) {
	k := pairOf(t, rulesOf(t, "fact a(); fact b(); rule r { a(); => halt; } rule s { => halt; }"))
	k.addAll(fact(1, 0), fact(2, 1))
	for _, kind := range []int{math.MinInt, -1 << 32, -2, -1, 2, 3, 31, 32, 255, 256, 1 << 32, math.MaxInt} {
		if err := k.add(fact(3, kind)); err != api.ErrArg {
			t.Errorf("%d: %v", kind, err)
		}
		for _, none := range []api.Rules{{}, {Rules: []api.Rule{{Name: "r"}}}} {
			mustAnswer(t, api.ErrArg, made(t, none), fact(3, kind))
			mustAnswer(t, api.ErrArg, made(t, none), fact(3, 0))
		}
	}
	mustTell(t, k.net, 2, token(0, 1), token(1))
}

// P13.2: a fact has as many Args as its type has Fields.
func TestCounts(t *testing.T) {
	k := pairOf(t, rulesOf(t, "fact f0(); fact f1(a); fact f2(a, b); fact f3(a, b, c); fact f4(a, b, c, d); fact f5(a, b, c, d, e); fact f6(a, b, c, d, e, f); rule r { f0(); => halt; } rule s { f6(_, _, _, _, _, ?x); f1(?x); => halt; }"))
	for fields := range 7 {
		for n := range 10 {
			want := api.ErrArg
			if n == fields {
				want = api.OK
			}
			if err := k.add(fact(fields+1, fields, slices.Repeat(numbers(4), n)...)); err != want && err != api.ErrThere {
				t.Errorf("%d of %d: %v", n, fields, err)
			}
			if _, there := k.place(fields + 1); there != (n >= fields) {
				t.Errorf("%d of %d: %v", n, fields, there)
			}
		}
	}
	mustTell(t, k.net, 7, token(0, 1), token(1, 7, 2))
	// What stands behind a row's end is none of its values; a row without elements is none.
	k.addAll(fact(8, 1, numbers(1, 2)[:1]...), api.Fact{Id: 9, Args: []api.Value{}})
	if err := k.add(fact(10, 2, numbers(1, 2)[:1]...)); err != api.ErrArg {
		t.Error(err)
	}
	mustAnswer(t, api.ErrArg, k.net, fact(10, 1, make([]api.Value, 1<<20)...))
	mustAnswer(t, api.ErrArg, k.net, fact(10, 1, slices.Repeat(numbers(1), 1<<20)...))
}

// wrongValues are such as no fact has.
func wrongValues() []api.Value {
	return []api.Value{
		{}, {Kind: 3}, {Kind: 255}, {Num: 1}, {Text: "a"}, {Kind: 3, Num: 1}, {Kind: 3, Text: "a"}, {Kind: 0, Num: 1},
		{Kind: api.Int, Text: "a"}, {Kind: api.Int, Num: 1, Text: "a"}, {Kind: api.Int, Text: "\x00"},
		{Kind: api.Name}, {Kind: api.Name, Num: 1}, {Kind: api.Name, Num: 1, Text: "a"}, {Kind: api.Name, Num: -1, Text: "a"},
		name("A"), name("9"), name("_"), name("a b"), name("a-"), name("é"), name("a\x00"), name("'a"), name(strings.Repeat("z", api.MaxName+1)), name(strings.Repeat("z", 1<<20)),
	}
}

// P13.2: a fact's values are right, wherever they stand, also of facts that no condition asks for.
func TestValues(t *testing.T) {
	k := pairOf(t, program(t, "p(_);", "", "not q(_);"))
	for n, v := range []api.Value{number(0), number(1), number(-1), number(math.MaxInt64), number(math.MinInt64), name("a"), name("rule"), name("a_9"), name(strings.Repeat("z", api.MaxName))} {
		k.addAll(fact(2*n+1, pType, v), fact(2*n+2, eType, v, v))
	}
	for _, v := range wrongValues() {
		for _, f := range []api.Fact{fact(99, pType, v), fact(99, qType, v), fact(99, eType, v, number(1)), fact(99, eType, number(1), v), fact(99, eType, v, v)} {
			if err := k.add(f); err != api.ErrArg {
				t.Errorf("%+v: %v", f, err)
			}
			mustDropAs(t, api.ErrNone, k.net, 99)
		}
	}
}

// P13.2: the order in which errors are told: of a fact that is not right, whose Id is there, beside which there would be too many.
func TestOrderOfErrors(t *testing.T) {
	k := filled(t, many(0, api.MaxTokens, pType), "p(_);")
	for _, f := range []api.Fact{fact(7, pType), fact(7, pType, api.Value{}), fact(7, 9), fact(7, noneType, number(1))} {
		mustAnswer(t, api.ErrArg, k.net, f)
	}
	mustAnswer(t, api.ErrThere, k.net, p(7, 1))
	mustAnswer(t, api.ErrThere, k.net, fact(7, noneType))
	mustAnswer(t, api.ErrArg, k.net, p(api.MaxId+1, 1))
	mustAnswer(t, api.ErrArg, k.net, fact(api.MaxId, pType))
	mustAnswer(t, api.ErrMany, k.net, p(api.MaxId, 1))
	mustDropAs(t, api.ErrNone, k.net, api.MaxId)
	k.mustAgree()
	blocked := filled(t, slices.Concat([]api.Fact{q(200, 1)}, many(0, 100, pType)), "not q(_); p(_); p(_);")
	mustAnswer(t, api.ErrThere, blocked.net, q(200, 1))
	mustDropAs(t, api.ErrMany, blocked.net, 200)
	mustDropAs(t, api.ErrNone, blocked.net, 201)
	mustDropAs(t, api.OK, blocked.net, 50)
}

// turned are rules of which one part is not right.
func turned(t *testing.T) []api.Rules {
	t.Helper()
	var l []api.Rules
	for _, turn := range []func(r *api.Rules){
		func(r *api.Rules) { r.Types[1].Name = "e" },
		func(r *api.Rules) { r.Types[2].Name = "" },
		func(r *api.Rules) { r.Types[2].Fields = -1 },
		func(r *api.Rules) { r.Types[2].Fields = 7 },
		func(r *api.Rules) { r.Types = slices.Repeat(r.Types, 9) },
		func(r *api.Rules) { r.Types = r.Types[:1] },
		func(r *api.Rules) { r.Rules = append(r.Rules, r.Rules[0]) },
		func(r *api.Rules) { r.Rules[0].Name = "" },
		func(r *api.Rules) { r.Rules[0].Salience = api.MaxSalience + 1 },
		func(r *api.Rules) { r.Rules[0].Vars = 0 },
		func(r *api.Rules) { r.Rules[0].Vars = 2 },
		func(r *api.Rules) { r.Rules[0].Vars = -1 },
		func(r *api.Rules) { r.Rules[0].Vars = math.MaxInt },
		func(r *api.Rules) { r.Rules[0].Conds = slices.Repeat(r.Rules[0].Conds[1:2], api.MaxConds) },
		func(r *api.Rules) { r.Rules[0].Conds[0].Kind = 0 },
		func(r *api.Rules) { r.Rules[0].Conds[0].Kind = 4 },
		func(r *api.Rules) { r.Rules[0].Conds[0].Kind = api.CondNot },
		func(r *api.Rules) { r.Rules[0].Conds[0].Type = 0 },
		func(r *api.Rules) { r.Rules[0].Conds[0].Type = 4 },
		func(r *api.Rules) { r.Rules[0].Conds[0].Type = -1 },
		func(r *api.Rules) { r.Rules[0].Conds[0].Args = nil },
		func(r *api.Rules) { r.Rules[0].Conds[0].Args = slices.Repeat(r.Rules[0].Conds[0].Args, 7) },
		func(r *api.Rules) { r.Rules[0].Conds[0].Args[0].Kind = 5 },
		func(r *api.Rules) { r.Rules[0].Conds[0].Args[0].Var = 1 },
		func(r *api.Rules) { r.Rules[0].Conds[0].Args[0].Value = number(1) },
		func(r *api.Rules) { r.Rules[0].Conds[0].Test = api.Expr{Kind: api.ExprConst, Value: number(1)} },
		func(r *api.Rules) { r.Rules[0].Conds[1].Args[0].Var = 1 },
		func(r *api.Rules) { r.Rules[0].Conds[1].Args[0].Kind = api.ArgBind },
		func(r *api.Rules) { r.Rules[0].Conds[2].Test.Op = 12 },
		func(r *api.Rules) { r.Rules[0].Conds[2].Test.Kids[0].Var = 1 },
		func(r *api.Rules) { r.Rules[0].Conds[2].Test.Kids[1].Value = api.Value{} },
		func(r *api.Rules) { r.Rules[0].Conds[2].Test = api.Expr{} },
		func(r *api.Rules) { holdItself(&r.Rules[0].Conds[2].Test) },
		func(r *api.Rules) { r.Rules[0].Acts[0].Kind = 5 },
		func(r *api.Rules) { r.Rules[0].Acts[0].Which = 1 },
		func(r *api.Rules) { r.Rules[1].Acts = slices.Repeat(r.Rules[1].Acts, api.MaxActs+1) },
		// Variables are bound once each, by their numbers.
		func(r *api.Rules) { r.Rules[1].Vars = 2; r.Rules[1].Conds = rebinding(0, 0) },
		func(r *api.Rules) { r.Rules[1].Vars = 1; r.Rules[1].Conds = rebinding(0, 0) },
		func(r *api.Rules) { r.Rules[1].Vars = 2; r.Rules[1].Conds = rebinding(1, 0) },
	} {
		r := program(t, "p(?x); not q(?x); test ?x = 1;", "p(_);")
		turn(&r)
		l = append(l, r)
	}
	return l
}

// holdItself makes an expression one of its own Kids.
func holdItself(test *api.Expr) { test.Kids[0] = *test }

// rebinding is p(?a) and then p(?b), by the variables' numbers.
func rebinding(a, b int) []api.Cond {
	var l []api.Cond
	for _, n := range []int{a, b} {
		l = append(l, api.Cond{Kind: api.CondFact, Type: pType, Args: []api.Arg{{Kind: api.ArgBind, Var: n}}})
	}
	return l
}

// P13.1: of rules that are not right, by one part alone, there is no net; of those that are there is one, without facts.
func TestNew(t *testing.T) {
	for i, r := range turned(t) {
		if n := rete.New(r); n != nil {
			t.Errorf("%d: %v", i, n)
		}
	}
	right := program(t, "p(?x); not q(?x); test ?x = 1;", "p(_);")
	mustTell(t, made(t, right), 0)
	right.Rules[1].Vars, right.Rules[1].Conds = 2, rebinding(0, 1)
	n := made(t, right)
	mustAdd(t, n, p(1, 1))
	mustTell(t, n, 1, token(0, 1), token(1, 1, 1))
	mustTell(t, made(t, program(t, "", "test 1;", "not p(_);", "not p(_); test 0;", "none();", "not q(1); not none();")), 0, token(0), token(1), token(2), token(5))
}

// P13.1: as many types, fields, rules, conditions and variables as may be.
func TestMost(t *testing.T) {
	var r api.Rules
	for n := range api.MaxTypes {
		r.Types = append(r.Types, api.Type{Name: fmt.Sprint("t", n), Fields: api.MaxFields})
	}
	for n := range api.MaxRules {
		rule := api.Rule{Name: fmt.Sprint("r", n), Vars: api.MaxVars}
		for c := range api.MaxConds {
			args := []api.Arg{{Kind: api.ArgBind, Var: 2 * c}, {Kind: api.ArgBind, Var: 2*c + 1}, {Kind: api.ArgVar, Var: c}, {Kind: api.ArgAny}, {Kind: api.ArgAny}, {Kind: api.ArgConst, Value: number(int64(n))}}
			rule.Conds = append(rule.Conds, api.Cond{Kind: api.CondFact, Type: n % api.MaxTypes, Args: args})
		}
		r.Rules = append(r.Rules, rule)
	}
	k := pairOf(t, r)
	for n := range api.MaxRules {
		k.add(fact(n+1, n%api.MaxTypes, numbers(1, 1, 1, 2, 3, int64(n))...))
	}
	if len(k.tokens) != api.MaxRules {
		t.Error(len(k.tokens))
	}
	more := r
	more.Types = append(slices.Clone(r.Types), api.Type{Name: "u"})
	if n := rete.New(more); n != nil {
		t.Error("of a type more")
	}
	more = r
	more.Rules = append(slices.Clone(r.Rules), api.Rule{Name: "u"})
	if n := rete.New(more); n != nil {
		t.Error("of a rule more")
	}
}

// mustDoNothing calls all there is.
func mustDoNothing(t *testing.T, n *rete.Net) {
	t.Helper()
	for range 2 {
		for _, f := range []api.Fact{{}, p(1, 1), p(0, 1), fact(1, noneType), fact(1, 99), fact(1, pType, api.Value{}), fact(1, 0, make([]api.Value, 100)...)} {
			mustAnswer(t, api.ErrNil, n, f)
		}
		for _, id := range []int{math.MinInt, -1, 0, 1, 2, api.MaxId, api.MaxId + 1, math.MaxInt} {
			mustDropAs(t, api.ErrNil, n, id)
		}
		if told := n.Tokens(); told != nil || n.Len() != 0 {
			t.Errorf("%v, %d", told, n.Len())
		}
	}
}

// R5: a nil net, and one that nobody made, do nothing, and ErrNil stands ahead of all other errors.
func TestNil(t *testing.T) {
	var zero rete.Net
	for _, n := range []*rete.Net{nil, {}, new(rete.Net), &zero, rete.New(turned(t)[0])} {
		mustDoNothing(t, n)
	}
}

// R6: rows without elements and nil ones are one.
func TestEmptyRows(t *testing.T) {
	r := api.Rules{Types: []api.Type{{Name: "p"}}, Rules: []api.Rule{{Name: "r", Conds: []api.Cond{{Kind: api.CondFact}}}, {Name: "s", Conds: []api.Cond{}}}}
	with := api.Rules{Types: []api.Type{{Name: "p"}}, Rules: []api.Rule{{Name: "r", Conds: []api.Cond{{Kind: api.CondFact, Args: []api.Arg{}, Test: api.Expr{Kids: []api.Expr{}}}}, Acts: []api.Act{}}, {Name: "s"}}}
	for _, rules := range []api.Rules{r, with} {
		for _, args := range [][]api.Value{nil, {}} {
			mustMatch(t, rules, []api.Fact{{Id: 4, Args: args}}, token(0, 4), token(1))
		}
	}
}

// tested is the rules of p(?x) and a test.
func tested(x api.Expr) api.Rules {
	bound := api.Cond{Kind: api.CondFact, Args: []api.Arg{{Kind: api.ArgBind, Var: 0}}}
	return api.Rules{Types: []api.Type{{Name: "p", Fields: 1}}, Rules: []api.Rule{{Name: "r", Vars: 1, Conds: []api.Cond{bound, {Kind: api.CondTest, Test: x}}}}}
}

// R1: expressions that are deeper than any tree, and such as have Kids together, over and over.
func TestGreatExpressions(t *testing.T) {
	one := api.Expr{Kind: api.ExprConst, Value: number(1)}
	deep := api.Expr{Kind: api.ExprVar}
	for range 1 << 18 {
		deep = api.Expr{Kind: api.ExprOp, Op: api.OpMul, Kids: []api.Expr{deep, one}}
	}
	shared := api.Expr{Kind: api.ExprVar}
	for range 1 << 10 {
		kids := []api.Expr{shared, shared}
		shared = api.Expr{Kind: api.ExprOp, Op: api.OpAnd, Kids: kids}
	}
	// Each row begins where the one ahead has its second.
	row := make([]api.Expr, 1<<10)
	for i := range row {
		row[i] = api.Expr{Kind: api.ExprVar}
		if i+2 < len(row) {
			row[i] = api.Expr{Kind: api.ExprOp, Op: api.OpAnd, Kids: row[i+1 : i+3]}
		}
	}
	for i, x := range []api.Expr{deep, shared, row[0]} {
		n := made(t, tested(x))
		mustAdd(t, n, fact(1, 0, number(0)), fact(2, 0, number(1)), fact(3, 0, name("a")))
		if told := n.Tokens(); !same(told, tokens(0, []int{2})) {
			t.Errorf("%d: %v", i, told)
		}
		mustDrop(t, n, 2)
		mustTell(t, n, 2)
	}
}
