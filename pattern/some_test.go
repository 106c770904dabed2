package pattern_test

import (
	"slices"
	"testing"

	"ropewalk/api"
	"ropewalk/pattern"
)

// some is what Some tells: the same each time, and that one of the facts matches; all arguments stay as they are.
func some(t *testing.T, c api.Cond, e pattern.Env, facts ...api.Fact) bool {
	t.Helper()
	aheadEnv := copied(e)
	var aheadFacts []api.Fact
	for _, f := range facts {
		aheadFacts = append(aheadFacts, api.Fact{Id: f.Id, Type: f.Type, Args: slices.Clone(f.Args)})
	}
	is := pattern.Some(c, e, facts...)
	if again := pattern.Some(c, e, facts...); again != is {
		t.Errorf("%s, %s, %s: %v, then %v", brief(c), brief(e), brief(facts), is, again)
	}
	one := slices.ContainsFunc(facts, func(f api.Fact) bool {
		_, matches := pattern.Match(c, f, e)
		return matches
	})
	if one != is {
		t.Errorf("%s, %s, %s: %v, but one of them: %v", brief(c), brief(e), brief(facts), is, one)
	}
	changed := !same(e, aheadEnv)
	for i, f := range facts {
		changed = changed || f.Id != aheadFacts[i].Id || f.Type != aheadFacts[i].Type || !slices.Equal(f.Args, aheadFacts[i].Args)
	}
	if changed {
		t.Errorf("%s, %s was changed to %s, %s", brief(aheadEnv), brief(aheadFacts), brief(e), brief(facts))
	}
	return is
}

func mustFind(t *testing.T, want bool, c api.Cond, e pattern.Env, facts ...api.Fact) {
	t.Helper()
	if is := some(t, c, e, facts...); is != want {
		t.Errorf("%s, %s, %s: %v", brief(c), brief(e), brief(facts), is)
	}
}

// conditions are one of each kind that asks for facts.
func conditions(args ...api.Arg) []api.Cond {
	return []api.Cond{{Kind: api.CondFact, Type: 3, Args: args}, {Kind: api.CondNot, Type: 3, Args: args}}
}

// P10.3: of no facts none matches.
func TestSomeOfNone(t *testing.T) {
	for _, c := range slices.Concat(conditions(), conditions(anything()), conditions(bind(0)), conditions(bind(9))) {
		for _, e := range []pattern.Env{{}, pattern.New(1), pattern.New(16)} {
			mustFind(t, false, c, e)
			mustFind(t, false, c, e, []api.Fact{}...)
		}
	}
}

// P10.3: of one fact, whether that matches.
func TestSomeOfOne(t *testing.T) {
	for _, v := range values() {
		for _, w := range values() {
			e := with(pattern.New(3), 1, w)
			for i := range 2 {
				mustFind(t, true, conditions(anything())[i], e, fact(v))
				mustFind(t, true, conditions(bind(0))[i], e, fact(v))
				mustFind(t, true, conditions(bind(1))[i], e, fact(v))
				mustFind(t, false, conditions(bind(3))[i], e, fact(v))
				mustFind(t, v == w, conditions(variable(1))[i], e, fact(v))
				mustFind(t, false, conditions(variable(0))[i], e, fact(v))
				mustFind(t, v == w, conditions(constant(w))[i], e, fact(v))
				mustFind(t, v == w, conditions(bind(2), variable(2))[i], e, fact(v, w))
				mustFind(t, false, conditions(anything())[i], e, fact(v, w))
			}
		}
	}
}

// P10.3: of many facts, wherever the one stands that matches; others are of other types, have more or fewer values, or do not fit.
func TestSomeOfMany(t *testing.T) {
	others := []api.Fact{fact(numbers(1, 2, 2)...), fact(numbers(1, 1, 3)...), {Type: 2, Args: numbers(1, 1, 2)}, fact(numbers(1, 1)...), fact(numbers(1, 1, 2, 2)...), fact(), fact(name("a"), name("b"), number(2)), {}}
	right := []api.Fact{fact(numbers(1, 1, 2)...), fact(numbers(7, 7, 2)...), fact(name("a"), name("a"), number(2)), {Id: -1, Type: 3, Args: []api.Value{{}, {}, number(2)}}}
	for _, c := range conditions(bind(0), variable(0), one(2)) {
		for _, e := range []pattern.Env{pattern.New(1), env(number(1)), env(number(5), api.Value{}, name("a"))} {
			mustFind(t, false, c, e, others...)
			for at := range len(others) + 1 {
				for _, f := range right {
					mustFind(t, true, c, e, slices.Insert(slices.Clone(others), at, f)...)
				}
			}
			mustFind(t, true, c, e, append(slices.Repeat(others, 500), right[1])...)
			mustFind(t, false, c, e, slices.Repeat(others, 500)...)
			mustFind(t, true, c, e, right...)
			mustFind(t, false, c, pattern.Env{}, slices.Concat(others, right)...)
		}
	}
}

// P10.3: each fact is held against c under e, whatever those ahead of it have bound.
func TestSomeBindsNothing(t *testing.T) {
	for _, c := range conditions(variable(0), bind(0), bind(1), one(2)) {
		e := env(number(7), api.Value{})
		bound := fact(numbers(7, 8, 9, 1)...)
		mustFind(t, false, c, e, bound)
		mustFind(t, false, c, e, bound, fact(numbers(8, 8, 9, 2)...))
		mustFind(t, false, c, e, bound, bound, fact(numbers(9, 7, 9, 2)...), fact(numbers(8, 7, 9, 2)...))
		mustFind(t, true, c, e, bound, fact(numbers(7, 8, 9, 2)...))
		mustFind(t, true, c, e, bound, fact(numbers(8, 8, 9, 2)...), bound, bound, fact(numbers(7, 6, 5, 2)...))
	}
	for _, c := range conditions(variable(0), bind(0), variable(0), bind(0), one(2)) {
		e := env(number(7))
		mustFind(t, false, c, e, fact(numbers(7, 8, 8, 9, 1)...), fact(numbers(9, 8, 8, 9, 2)...), fact(numbers(8, 8, 8, 8, 2)...))
		mustFind(t, true, c, e, fact(numbers(7, 8, 8, 9, 1)...), fact(numbers(7, 8, 9, 9, 2)...), fact(numbers(7, 9, 9, 8, 2)...))
	}
	// A variable that was not there is not there for the next fact.
	for _, c := range conditions(one(1), variable(1), bind(1)) {
		mustFind(t, false, c, pattern.New(2), fact(numbers(1, 1, 1)...), fact(numbers(1, 1, 1)...))
	}
	for _, c := range conditions(bind(0), one(1), variable(1)) {
		mustFind(t, false, c, env(api.Value{}, number(4)), fact(numbers(4, 2, 4)...), fact(numbers(5, 1, 5)...))
		mustFind(t, true, c, env(api.Value{}, number(4)), fact(numbers(4, 2, 4)...), fact(numbers(5, 1, 5)...), fact(numbers(5, 1, 4)...))
	}
}

// P10.3: none matches under an env that is not well made, or a condition that asks for no facts.
func TestSomeOfWrong(t *testing.T) {
	facts := []api.Fact{fact(), fact(number(1)), fact(numbers(1, 1)...), fact(name("a"))}
	for _, e := range []pattern.Env{{Has: []bool{true}}, {Values: make([]api.Value, 1)}, {Has: make([]bool, 1), Values: numbers(1)}, {Has: make([]bool, 2), Values: numbers(1)}} {
		for _, c := range slices.Concat(conditions(), conditions(anything()), conditions(one(1)), conditions(bind(0), variable(0))) {
			mustFind(t, false, c, e, facts...)
		}
	}
	for kind := range 256 {
		k := api.CondKind(kind)
		asks := k == api.CondFact || k == api.CondNot
		mustFind(t, asks, api.Cond{Kind: k, Type: 3}, pattern.New(1), facts...)
		mustFind(t, asks, api.Cond{Kind: k, Type: 3, Args: []api.Arg{bind(0)}}, pattern.New(1), facts...)
		mustFind(t, false, api.Cond{Kind: k, Type: 2, Args: []api.Arg{bind(0)}}, pattern.New(1), facts...)
	}
}
