package naive_test

import (
	"math"
	"slices"
	"strings"
	"testing"

	"ropewalk/api"
	"ropewalk/naive"
)

// mustBeWrong holds that rules and facts are refused by both calls, also where k would be a match.
func mustBeWrong(t *testing.T, r api.Rules, k api.Token, facts ...api.Fact) {
	t.Helper()
	mustRefuse(t, api.ErrArg, r, facts...)
	mustNotHave(t, r, k, facts...)
	mustNotHave(t, r, api.Token{}, facts...)
}

// P12.1, P12.2: Ids rise, from 1 to MaxId.
func TestIds(t *testing.T) {
	r := program(t, "p(_);")
	for _, ids := range [][]int{{1}, {2}, {api.MaxId - 1}, {api.MaxId}, {1, 2}, {1, api.MaxId}, {api.MaxId - 1, api.MaxId}, {1, 2, 3}, {1, 3, 1000}, {7, 1 << 32, 1<<32 + 1, api.MaxId}} {
		var facts []api.Fact
		var want []api.Token
		for _, id := range ids {
			facts, want = append(facts, p(id, 1)), append(want, token(0, id))
		}
		mustTell(t, r, facts, want...)
		for _, id := range ids {
			mustHave(t, r, token(0, id), facts)
			mustNotHave(t, r, token(0, id+1, id), facts...)
		}
		for _, id := range []int{0, -1, 5, 1 << 33, api.MaxId + 1, math.MaxInt, math.MinInt} {
			mustNotHave(t, r, token(0, id), facts...)
		}
	}
	for _, ids := range [][]int{{0}, {-1}, {math.MinInt}, {api.MaxId + 1}, {math.MaxInt}, {1, 1}, {2, 1}, {1, 0}, {1, -1}, {0, 1}, {-5, 1}, {1, 2, 2}, {1, 1, 2}, {1, 3, 2}, {2, 1, 3}, {3, 2, 1}, {1, 2, 1}, {api.MaxId, api.MaxId}, {api.MaxId, api.MaxId + 1}, {1, 2, 3, 4, math.MaxInt}, {math.MaxInt, 1}, {math.MinInt, 1}} {
		var facts []api.Fact
		for _, id := range ids {
			facts = append(facts, p(id, 1))
		}
		for _, id := range ids {
			mustBeWrong(t, r, token(0, id), facts...)
		}
	}
}

// P12.1, P12.2: each fact's Type is among the rules' Types.
func TestTypes(t *testing.T) {
	r := rulesOf(t, "fact a(); fact b(); rule r { a(); => halt; } rule s { => halt; }")
	for _, kind := range []int{0, 1} {
		facts := []api.Fact{fact(1, 0), fact(2, kind)}
		mustHave(t, r, token(0, 1), facts)
		mustHave(t, r, token(1), facts)
	}
	mustTell(t, r, []api.Fact{fact(1, 0), fact(2, 1)}, token(0, 1), token(1))
	for _, kind := range []int{math.MinInt, -1 << 32, -2, -1, 2, 3, 31, 32, 255, 256, 1 << 32, math.MaxInt} {
		mustBeWrong(t, r, token(0, 1), fact(1, 0), fact(2, kind))
		mustBeWrong(t, r, token(0, 2), fact(1, kind), fact(2, 0))
		mustBeWrong(t, r, token(1), fact(1, kind))
		mustBeWrong(t, api.Rules{Rules: []api.Rule{{Name: "r"}}}, token(0), fact(1, kind))
	}
	mustBeWrong(t, api.Rules{}, token(0), fact(1, 0))
}

// P12.1, P12.2: a fact has as many Args as its type has Fields.
func TestCounts(t *testing.T) {
	r := rulesOf(t, "fact f0(); fact f1(a); fact f2(a, b); fact f3(a, b, c); fact f4(a, b, c, d); fact f5(a, b, c, d, e); fact f6(a, b, c, d, e, f); rule r { => halt; }")
	for fields := range 7 {
		for n := range 10 {
			facts := []api.Fact{fact(1, fields, slices.Repeat(numbers(4), n)...)}
			if n == fields {
				mustTell(t, r, facts, token(0))
				mustHave(t, r, token(0), facts)
				continue
			}
			mustBeWrong(t, r, token(0), facts...)
			mustBeWrong(t, r, token(0), fact(1, 0), fact(2, fields, slices.Repeat(numbers(4), n)...), fact(3, 0))
		}
	}
	mustTell(t, r, []api.Fact{{Id: 1, Args: []api.Value{}}}, token(0))
	// What stands behind a row's end is none of its values.
	mustTell(t, r, []api.Fact{fact(1, 1, numbers(1, 2)[:1]...)}, token(0))
	mustBeWrong(t, r, token(0), fact(1, 2, numbers(1, 2)[:1]...))
}

// P12.1, P12.2: a fact's values are right, wherever they stand, also of facts that no condition asks for.
func TestValues(t *testing.T) {
	r := program(t, "p(_);", "")
	right := []api.Value{number(0), number(1), number(-1), number(math.MaxInt64), number(math.MinInt64), name("a"), name("rule"), name("a_9"), name(strings.Repeat("z", api.MaxName))}
	for _, v := range right {
		facts := []api.Fact{fact(1, pType, v), fact(2, eType, v, v)}
		mustTell(t, r, facts, token(0, 1), token(1))
		mustHave(t, r, token(0, 1), facts)
	}
	wrong := []api.Value{
		{}, {Kind: 3}, {Kind: 255}, {Num: 1}, {Text: "a"}, {Kind: 3, Num: 1}, {Kind: 3, Text: "a"}, {Kind: 0, Num: 1},
		{Kind: api.Int, Text: "a"}, {Kind: api.Int, Num: 1, Text: "a"}, {Kind: api.Int, Text: "\x00"},
		{Kind: api.Name}, {Kind: api.Name, Num: 1}, {Kind: api.Name, Num: 1, Text: "a"}, {Kind: api.Name, Num: -1, Text: "a"},
		name("A"), name("9"), name("_"), name("a b"), name("a-"), name("é"), name("a\x00"), name("'a"), name(strings.Repeat("z", api.MaxName+1)), name(strings.Repeat("z", 1<<20)),
	}
	for _, v := range wrong {
		mustBeWrong(t, r, token(1), fact(1, pType, v))
		mustBeWrong(t, r, token(0, 1), p(1, 5), fact(2, pType, v))
		mustBeWrong(t, r, token(0, 2), fact(1, pType, v), p(2, 5))
		mustBeWrong(t, r, token(0, 1), p(1, 5), fact(2, eType, v, number(1)))
		mustBeWrong(t, r, token(0, 1), p(1, 5), fact(2, eType, number(1), v))
		mustBeWrong(t, r, token(0, 1), p(1, 5), fact(2, eType, v, v), p(3, 5))
	}
}

// turned are rules of which one part is not right.
func turned(t *testing.T) []api.Rules {
	t.Helper()
	var l []api.Rules
	for _, turn := range []func(r *api.Rules){
		func(r *api.Rules) { r.Types[1].Name = "e" },
		func(r *api.Rules) { r.Types[2].Name = "" },
		func(r *api.Rules) { r.Types[2].Name = "Q" },
		func(r *api.Rules) { r.Types[2].Fields = -1 },
		func(r *api.Rules) { r.Types[2].Fields = 7 },
		func(r *api.Rules) { r.Types = slices.Repeat(r.Types, 9) },
		func(r *api.Rules) { r.Types = r.Types[:1] },
		func(r *api.Rules) { r.Rules = append(r.Rules, r.Rules[0]) },
		func(r *api.Rules) { r.Rules[0].Name = "" },
		func(r *api.Rules) { r.Rules[0].Salience = api.MaxSalience + 1 },
		func(r *api.Rules) { r.Rules[0].Salience = -api.MaxSalience - 1 },
		func(r *api.Rules) { r.Rules[0].Vars = 0 },
		func(r *api.Rules) { r.Rules[0].Vars = 2 },
		func(r *api.Rules) { r.Rules[0].Vars = -1 },
		func(r *api.Rules) { r.Rules[0].Vars = math.MaxInt },
		func(r *api.Rules) { r.Rules[0].Conds = slices.Repeat(r.Rules[0].Conds[1:2], api.MaxConds) },
		func(r *api.Rules) { r.Rules[0].Conds[0].Kind = 0 },
		func(r *api.Rules) { r.Rules[0].Conds[0].Kind = 4 },
		func(r *api.Rules) { r.Rules[0].Conds[0].Kind = api.CondNot },
		func(r *api.Rules) { r.Rules[0].Conds[0].Type = 0 },
		func(r *api.Rules) { r.Rules[0].Conds[0].Type = 4 },
		func(r *api.Rules) { r.Rules[0].Conds[0].Type = -1 },
		func(r *api.Rules) { r.Rules[0].Conds[0].Args = nil },
		func(r *api.Rules) { r.Rules[0].Conds[0].Args[0].Kind = 5 },
		func(r *api.Rules) { r.Rules[0].Conds[0].Args[0].Var = 1 },
		func(r *api.Rules) { r.Rules[0].Conds[0].Args[0].Value = number(1) },
		func(r *api.Rules) { r.Rules[0].Conds[0].Test = api.Expr{Kind: api.ExprConst, Value: number(1)} },
		func(r *api.Rules) { r.Rules[0].Conds[1].Args[0].Var = 1 },
		func(r *api.Rules) { r.Rules[0].Conds[1].Args[0].Var = -1 },
		func(r *api.Rules) { r.Rules[0].Conds[1].Args[0].Kind = api.ArgBind },
		func(r *api.Rules) { r.Rules[0].Conds[2].Test.Op = 12 },
		func(r *api.Rules) { r.Rules[0].Conds[2].Test.Kids[0].Var = 1 },
		func(r *api.Rules) { r.Rules[0].Conds[2].Test.Kids[1].Value = api.Value{} },
		func(r *api.Rules) { r.Rules[0].Conds[2].Test = api.Expr{} },
		func(r *api.Rules) { r.Rules[0].Conds[2].Test.Kids[1] = r.Rules[0].Conds[2].Test; holdItself(r) },
		func(r *api.Rules) { r.Rules[0].Acts[0].Kind = 5 },
		func(r *api.Rules) { r.Rules[0].Acts[0].Which = 1 },
		func(r *api.Rules) { r.Rules[1].Acts = slices.Repeat(r.Rules[1].Acts, api.MaxActs+1) },
	} {
		r := program(t, "p(?x); not q(?x); test ?x = 1;", "p(_);")
		turn(&r)
		l = append(l, r)
	}
	return l
}

// holdItself makes the test of the first rule one of its own Kids.
func holdItself(r *api.Rules) {
	test := &r.Rules[0].Conds[2].Test
	test.Kids[0] = *test
}

// P12.1, P12.2: rules that are not right, by one part alone, with facts and without.
func TestRulesNotRight(t *testing.T) {
	whole := program(t, "p(?x); not q(?x); test ?x = 1;", "p(_);")
	mustTell(t, whole, []api.Fact{p(1, 1)}, token(0, 1), token(1, 1))
	mustHave(t, whole, token(0, 1), []api.Fact{p(1, 1)}, number(1))
	for i, r := range turned(t) {
		for _, facts := range [][]api.Fact{nil, {p(1, 1)}, {p(0, 1)}} {
			if told, err := naive.Tokens(r, facts...); told != nil || err != api.ErrArg {
				t.Errorf("%d: %v, %v", i, told, err)
			}
			for _, k := range []api.Token{token(0, 1), token(1, 1), token(0)} {
				if told, is := naive.Vars(r, k, facts...); told != nil || is {
					t.Errorf("%d: %v, %v", i, told, is)
				}
			}
		}
	}
}

// P12.2: a match's rule is one of the rules; it has as many Ids as the rule asks for facts.
func TestNoSuchMatch(t *testing.T) {
	r := program(t, "p(_); not q(_); p(_);", "", "test 1;", "test 0;", "q(_);")
	facts := []api.Fact{p(1, 1), p(2, 1)}
	mustTell(t, r, facts, append(tokens(0, []int{1, 1}, []int{1, 2}, []int{2, 1}, []int{2, 2}), token(1), token(2))...)
	for _, rule := range []int{math.MinInt, -1 << 32, -1, 5, 6, 64, 1 << 32, math.MaxInt} {
		for _, ids := range [][]int{nil, {1}, {1, 1}} {
			mustNotHave(t, r, token(rule, ids...), facts...)
		}
	}
	for n := range 12 {
		ids := slices.Repeat([]int{1}, n)
		if n == 2 {
			mustHave(t, r, token(0, ids...), facts)
		} else {
			mustNotHave(t, r, token(0, ids...), facts...)
		}
		if n == 0 {
			mustHave(t, r, token(1, ids...), facts)
			mustHave(t, r, token(2, ids...), facts)
			mustHave(t, r, api.Token{Rule: 2, Ids: []int{}}, facts)
		} else {
			mustNotHave(t, r, token(1, ids...), facts...)
			mustNotHave(t, r, token(2, ids...), facts...)
		}
		mustNotHave(t, r, token(3, ids...), facts...)
		mustNotHave(t, r, token(4, ids...), facts...)
	}
	for _, id := range []int{math.MinInt, -1, 0, 3, 1<<32 + 1, api.MaxId, api.MaxId + 1, math.MaxInt} {
		mustNotHave(t, r, token(0, id, 1), facts...)
		mustNotHave(t, r, token(0, 1, id), facts...)
		mustNotHave(t, r, token(4, id), facts...)
	}
	mustNotHave(t, r, token(0, make([]int, 1<<20)...), facts...)
	mustNotHave(t, r, token(1, make([]int, 1<<20)...), facts...)
}

// R6: rows without elements and nil ones are one.
func TestEmptyRows(t *testing.T) {
	r := api.Rules{Types: []api.Type{{Name: "p"}}, Rules: []api.Rule{{Name: "r", Conds: []api.Cond{{Kind: api.CondFact}}}, {Name: "s", Conds: []api.Cond{}}}}
	with := api.Rules{Types: []api.Type{{Name: "p"}}, Rules: []api.Rule{{Name: "r", Conds: []api.Cond{{Kind: api.CondFact, Args: []api.Arg{}, Test: api.Expr{Kids: []api.Expr{}}}}, Acts: []api.Act{}}, {Name: "s"}}}
	for _, rules := range []api.Rules{r, with} {
		for _, args := range [][]api.Value{nil, {}} {
			facts := []api.Fact{{Id: 4, Args: args}}
			mustTell(t, rules, facts, token(0, 4), token(1))
			mustHave(t, rules, token(0, 4), facts)
			mustHave(t, rules, api.Token{Rule: 1, Ids: []int{}}, facts)
			mustHave(t, rules, api.Token{Rule: 1}, facts)
		}
	}
}
