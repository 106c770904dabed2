package naive_test

import (
	"reflect"
	"slices"
	"strings"
	"sync"
	"testing"
	"unsafe"

	"ropewalk/api"
	"ropewalk/naive"
)

// fresh is a text in memory of its own.
func fresh(text string) string { return strings.Clone(text) }

// R3: Ids that are told lie apart from each other and from what another call tells, also behind their ends.
func TestIdsLieApart(t *testing.T) {
	r := program(t, "p(_); p(_); test 1; p(_);", "p(_); not q(_); test 1;", "p(_);", "p(_); p(_);")
	facts := many(0, 3, pType)
	told, _ := naive.Tokens(r, facts...)
	again, _ := naive.Tokens(r, facts...)
	want, _ := naive.Tokens(r, facts...)
	for i, k := range told {
		_ = append(k.Ids, 99, 98, 97, 96)
		_ = append(k.Ids[:1], 95)
		for n := range k.Ids {
			k.Ids[n] = -1
		}
		for _, other := range told[i+1:] {
			if slices.Contains(other.Ids, -1) || slices.ContainsFunc(other.Ids, func(id int) bool { return id > 3 && id != 95 }) {
				t.Errorf("%v, %v", k, other)
			}
		}
		told[i].Rule = 77
	}
	_ = append(told[:1], token(9, 9))
	if !same(again, want) || len(want) != 27+3+3+9 {
		t.Errorf("%v, %v", again, want)
	}
}

// R3: each match's Ids are its own, when one of them is written over, however many it has.
func TestOneMatchWrittenOver(t *testing.T) {
	facts := many(0, 2, pType)
	for n := range api.MaxConds {
		r := program(t, strings.Repeat("p(_);", n+1))
		var want []api.Token
		for _, row := range rows(n+1, facts) {
			want = append(want, token(0, idsOf(row)...))
		}
		mustTell(t, r, facts, want...)
		for i := range want {
			told, _ := naive.Tokens(r, facts...)
			for n := range told[i].Ids {
				told[i].Ids[n] = 50
			}
			_ = append(told[i].Ids, 51)
			told[i] = want[i]
			if !same(told, want) {
				t.Errorf("%d: %v", i, told)
			}
		}
	}
}

// R3: variables' values lie apart from facts, rules and what another call tells, also their texts.
func TestVarsLieApart(t *testing.T) {
	r := program(t, "p(?x); e(?x, ?y); p('ab);")
	facts := []api.Fact{fact(1, pType, name(fresh("ab"))), fact(2, eType, name(fresh("ab")), name(fresh("cd")))}
	k := token(0, 1, 2, 1)
	var texts []api.Value
	for _, f := range facts {
		texts = append(texts, f.Args...)
	}
	texts = append(texts, r.Rules[0].Conds[2].Args[0].Value)
	for range 3 {
		told, is := naive.Vars(r, k, facts...)
		if !is || !slices.Equal(told, []api.Value{name("ab"), name("cd")}) {
			t.Fatalf("%v, %v", told, is)
		}
		texts = append(texts, told...)
		told[0], told[1] = number(1), number(2)
		_ = append(told, number(3))
	}
	places := map[*byte]int{}
	for _, v := range texts {
		places[unsafe.StringData(v.Text)]++
	}
	if len(places) != len(texts) || len(texts) != 4+6 {
		t.Errorf("%d texts at %d places", len(texts), len(places))
	}
	if facts[0].Args[0] != name("ab") || facts[1].Args[1] != name("cd") {
		t.Errorf("%v", facts)
	}
}

// R3: rules, facts and matches that are handed in stay as they are, also behind their ends.
func TestArgumentsStay(t *testing.T) {
	make := func() (api.Rules, []api.Fact, []int) {
		r := program(t, "p(?x); e(?x, ?y); not q(?y); test ?x < ?y;", "e(?x, ?x);", "q(_); q(_);")
		facts := []api.Fact{p(1, 5), e(2, 5, 6), q(3, 5), p(4, 1), q(5, 6)}
		return r, facts, []int{1, 2, 9, 9}
	}
	r, facts, ids := make()
	oneRules, oneFacts, oneIds := make()
	mustTell(t, r, facts[:3], token(0, 1, 2), token(2, 3, 3))
	mustHave(t, r, token(0, ids[:2]...), facts[:3], numbers(5, 6)...)
	mustTell(t, r, facts, tokens(2, []int{3, 3}, []int{3, 5}, []int{5, 3}, []int{5, 5})...)
	mustNotHave(t, r, token(0, ids[:2]...), facts...)
	mustNotHave(t, r, token(0, ids...), facts...)
	mustRefuse(t, api.ErrArg, r, append(facts[:3], p(1, 1))...)
	facts[3] = p(4, 1)
	if !reflect.DeepEqual(r, oneRules) || !reflect.DeepEqual(facts, oneFacts) || !slices.Equal(ids, oneIds) {
		t.Errorf("%v, %v, %v", r, facts, ids)
	}
}

// R3, R4: what is written over in arguments afterwards changes no answer that was told.
func TestArgumentsAreNotKept(t *testing.T) {
	r := program(t, "p(?x); e(?x, ?y);")
	facts := []api.Fact{p(1, 5), e(2, 5, 6), e(3, 5, 7)}
	k := token(0, 1, 3)
	told, _ := naive.Tokens(r, facts...)
	vars, _ := naive.Vars(r, k, facts...)
	facts[0].Args[0], facts[1].Id, facts[2].Args[1] = number(8), 7, number(8)
	r.Rules[0].Conds[0].Args[0] = api.Arg{Kind: api.ArgConst, Value: number(9)}
	k.Ids[0] = 4
	if !same(told, tokens(0, []int{1, 2}, []int{1, 3})) || !slices.Equal(vars, numbers(5, 7)) {
		t.Errorf("%v, %v", told, vars)
	}
}

// R4: a call tells what it told ahead, whatever was asked between, also of rows of which one part was turned.
func TestNothingIsKept(t *testing.T) {
	r := program(t, "p(?x); e(?x, ?y);")
	facts := []api.Fact{p(1, 5), e(2, 5, 6), e(3, 5, 7)}
	for range 3 {
		mustTell(t, r, facts, token(0, 1, 2), token(0, 1, 3))
		facts[1].Args[0] = number(4)
		mustTell(t, r, facts, token(0, 1, 3))
		mustNotHave(t, r, token(0, 1, 2), facts...)
		facts[2].Id = 2
		mustRefuse(t, api.ErrArg, r, facts...)
		facts[1].Args[0], facts[2].Id = number(5), 3
		r.Rules[0].Conds[1].Args[1] = api.Arg{Kind: api.ArgVar}
		mustRefuse(t, api.ErrArg, r, facts...)
		r.Rules[0].Vars = 1
		mustTell(t, r, facts)
		facts[2].Args[1] = number(5)
		mustTell(t, r, facts, token(0, 1, 3))
		mustHave(t, r, token(0, 1, 3), facts, number(5))
		facts[2].Args[1], r.Rules[0].Vars = number(7), 2
		r.Rules[0].Conds[1].Args[1] = api.Arg{Kind: api.ArgBind, Var: 1}
	}
}

// R3, R4: many that ask at once, of the same rules and facts, are told alike.
func TestAtOnce(t *testing.T) {
	r := program(t, "p(?x); p(?y); not q(?x); test ?x < ?y;", "p(_);")
	facts := append(many(0, 20, pType), q(21, 3))
	tooMany := many(0, 100, pType)
	want, _ := naive.Tokens(r, facts...)
	var all sync.WaitGroup
	for range 8 {
		all.Go(func() {
			for range 20 {
				told, err := naive.Tokens(r, facts...)
				vars, is := naive.Vars(r, token(0, 4, 20), facts...)
				_, other := naive.Tokens(r, tooMany...)
				if err != api.OK || !same(told, want) || !is || !slices.Equal(vars, numbers(4, 20)) || other != api.ErrMany {
					t.Errorf("%v, %v, %v, %v", err, vars, is, other)
				}
			}
		})
	}
	all.Wait()
}

// R1: very many facts, a test that is very long, one that is very deep, and as many rules and conditions as may be.
func TestGreat(t *testing.T) {
	r := program(t, "p(17); p(?x); test ?x < 4;", "not q(_);")
	facts := many(0, 4000, pType) // 1 + 4000 + 3, and 1
	mustTell(t, r, facts, token(0, 17, 1), token(0, 17, 2), token(0, 17, 3), token(1))
	great := append(many(0, 1<<17, qType), fact(1<<18, noneType))
	mustTell(t, program(t, "none();", "q(5);", "not q(6);"), great, token(0, 1<<18), token(1, 5))
	mustHave(t, program(t, "q(?x);"), token(0, 1<<17), great, number(1<<17))
	mustRefuse(t, api.ErrArg, r, append(great, fact(1<<18, noneType))...)
	mustRefuse(t, api.ErrMany, program(t, "q(_);"), great...)

	deep := api.Expr{Kind: api.ExprVar}
	for range 1 << 17 {
		deep = api.Expr{Kind: api.ExprOp, Op: api.OpNeg, Kids: []api.Expr{deep}}
	}
	r = program(t, "p(?x); test ?x;")
	r.Rules[0].Conds[1].Test = deep
	mustTell(t, r, []api.Fact{p(1, 0), p(2, 4)}, token(0, 2))
	mustHave(t, r, token(0, 2), []api.Fact{p(1, 0), p(2, 4)}, number(4))

	var conditions []string
	for range api.MaxRules {
		conditions = append(conditions, strings.Repeat("p(?x);", api.MaxConds))
	}
	told, err := tell(t, program(t, conditions...), many(0, 8, pType))
	if err != api.OK || len(told) != 8*api.MaxRules {
		t.Errorf("%d, %v", len(told), err)
	}
	mustRefuse(t, api.ErrMany, program(t, conditions...), many(0, 9, pType)...)
}
