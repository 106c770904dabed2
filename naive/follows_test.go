package naive_test

import (
	"math/rand"
	"slices"
	"testing"

	"ropewalk/api"
	"ropewalk/naive"
)

func has(l []api.Token, k api.Token) bool {
	return slices.ContainsFunc(l, func(other api.Token) bool { return same([]api.Token{k}, []api.Token{other}) })
}

func hasNot(r api.Rules) bool {
	for _, rule := range r.Rules {
		for _, c := range rule.Conds {
			if c.Kind == api.CondNot {
				return true
			}
		}
	}
	return false
}

// asksOf tells whether a condition asks for facts of that type, or that there are none.
func asksOf(r api.Rules, kind int) bool {
	for _, rule := range r.Rules {
		for _, c := range rule.Conds {
			if c.Kind != api.CondTest && c.Type == kind {
				return true
			}
		}
	}
	return false
}

// P12.3: a fact that no condition asks of its type changes no match, wherever its Id stands.
func TestFactThatNoneAsksFor(t *testing.T) {
	r := program(t, "p(?x); e(?x, ?y); test ?y < 9;", "p(_);", "not e(_, 3);")
	facts := []api.Fact{p(10, 1), e(20, 1, 2), p(30, 2), e(40, 2, 9)}
	want := []api.Token{token(0, 10, 20), token(1, 10), token(1, 30), token(2)}
	mustTell(t, r, facts, want...)
	for at := range len(facts) + 1 {
		for _, other := range []api.Fact{q(10*at+5, 1), q(10*at+5, 3), fact(10*at+5, qType, name("a")), fact(10*at+5, noneType)} {
			more := slices.Insert(slices.Clone(facts), at, other)
			mustTell(t, r, more, want...)
			mustHave(t, r, token(0, 10, 20), more, numbers(1, 2)...)
			mustNotHave(t, r, token(0, 10, 10*at+5), more...)
			mustNotHave(t, r, token(1, 10*at+5), more...)
		}
	}
}

// P12.3: a fact more takes no match away of rules without CondNot; one that no condition asks of its type changes none, of any rules.
func TestAnyFactMore(t *testing.T) {
	without, unasked, fewer := 0, 0, 0
	for i := range 3000 {
		c := chance{rand.New(rand.NewSource(int64(i)))}
		r := c.rules(1+c.Intn(3), 3)
		facts := c.facts(1+c.Intn(8), r.Types)
		at := c.Intn(len(facts))
		all, _ := naive.Tokens(r, facts...)
		left, err := naive.Tokens(r, slices.Delete(slices.Clone(facts), at, at+1)...)
		if err != api.OK {
			t.Fatal(err)
		}
		switch {
		case !asksOf(r, facts[at].Type):
			unasked++
			if !same(all, left) {
				t.Errorf("%+v, %s, %d: %v, %v", r, brief(facts), at, left, all)
			}
		case !hasNot(r):
			without++
			for _, k := range left {
				if !has(all, k) {
					t.Errorf("%+v, %s, %d: %v, %v", r, brief(facts), at, left, all)
				}
			}
		case slices.ContainsFunc(left, func(k api.Token) bool { return !has(all, k) }):
			fewer++
		}
	}
	if without < 300 || unasked < 300 || fewer < 30 {
		t.Errorf("%d, %d, %d", without, unasked, fewer)
	}
}

// P12.1, P12.2: what Tokens tells are the matches, and Vars tells of no other ones.
func TestEachHasVars(t *testing.T) {
	r := program(t, "p(?x); q(?y); test ?x <= ?y;", "q(?x); not p(?x);", "e(?x, ?x);")
	facts := []api.Fact{p(1, 1), p(2, 3), q(3, 2), q(4, 4), e(5, 1, 1), e(6, 1, 2), q(7, 3)}
	told, err := tell(t, r, facts)
	if err != api.OK {
		t.Fatal(err)
	}
	for rule := range 4 {
		for n := range 4 {
			for _, row := range rows(n, facts) {
				k := token(rule, idsOf(row)...)
				vars, is := naive.Vars(r, k, facts...)
				if is != has(told, k) || is && len(vars) != r.Rules[rule].Vars {
					t.Errorf("%v: %v, %v", k, vars, is)
				}
			}
		}
	}
}
