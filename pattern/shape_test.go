package pattern_test

import (
	"math"
	"slices"
	"testing"

	"ropewalk/api"
	"ropewalk/pattern"
)

// P10.2: conditions and facts without arguments.
func TestNoArguments(t *testing.T) {
	for _, args := range [][]api.Arg{nil, {}} {
		for _, row := range [][]api.Value{nil, {}} {
			for _, e := range []pattern.Env{{}, {Has: []bool{}, Values: []api.Value{}}, {Has: []bool{}}, {Values: []api.Value{}}, pattern.New(0), pattern.New(1), env(number(5), api.Value{}, name("a"))} {
				mustTell(t, asking(args...), fact(row...), e, e)
			}
		}
		mustNot(t, asking(args...), fact(number(1)), pattern.New(1))
		mustNot(t, asking(args...), fact(api.Value{}), pattern.New(1))
	}
	for _, row := range [][]api.Value{nil, {}} {
		for _, a := range []api.Arg{anything(), bind(0), variable(0), one(0), constant(api.Value{}), {}} {
			mustNot(t, asking(a), fact(row...), with(pattern.New(1), 0, api.Value{}))
		}
	}
}

// P10.2: a fact has as many values as the condition has arguments.
func TestCounts(t *testing.T) {
	for asked := range 10 {
		for many := range 10 {
			row := slices.Repeat(numbers(4), many)
			for _, a := range []api.Arg{anything(), variable(1), one(4)} {
				must(t, asked == many, asking(slices.Repeat([]api.Arg{a}, asked)...), fact(row...), env(api.Value{}, number(4)))
			}
			c := asking(slices.Repeat([]api.Arg{bind(0)}, asked)...)
			switch {
			case asked != many:
				mustNot(t, c, fact(row...), pattern.New(1))
			case asked > 0:
				mustTell(t, c, fact(row...), pattern.New(1), env(number(4)))
			}
		}
	}
	// What stands behind a row's end is none of its values.
	row := numbers(1, 2, 3)
	args := []api.Arg{one(1), one(2), one(3)}
	mustTell(t, asking(args...), fact(row...), pattern.Env{}, pattern.Env{})
	mustNot(t, asking(args...), fact(row[:2]...), pattern.Env{})
	mustNot(t, asking(args[:2]...), fact(row...), pattern.Env{})
	mustTell(t, asking(args[:2]...), fact(row[:2]...), pattern.Env{}, pattern.Env{})
	mustTell(t, asking(args[1:]...), fact(row[1:]...), pattern.Env{}, pattern.Env{})
}

// P10.2: the condition's Kind is CondFact or CondNot.
func TestConditionKinds(t *testing.T) {
	for kind := range 256 {
		k := api.CondKind(kind)
		for _, args := range [][]api.Arg{nil, {anything()}, {bind(0)}, {one(1)}, {variable(1)}} {
			c := api.Cond{Kind: k, Type: 3, Args: args, Test: api.Expr{Kind: api.ExprConst, Value: number(1)}}
			f := fact(slices.Repeat(numbers(1), len(args))...)
			told, is := pattern.Match(c, f, env(api.Value{}, number(1)))
			if asks := k == api.CondFact || k == api.CondNot; is != asks || !is && (len(told.Has) > 0 || len(told.Values) > 0) || is && len(told.Has) != 2 {
				t.Errorf("%+v: %v, %v", c, told, is)
			}
		}
	}
}

// P10.2: the fact is of the condition's type, whatever number that is.
func TestTypes(t *testing.T) {
	types := []int{math.MinInt, -1 << 32, -1, 0, 1, 2, 31, 32, 255, 256, 1 << 32, math.MaxInt}
	for _, asked := range types {
		for _, of := range types {
			for _, id := range []int{math.MinInt, -1, 0, 1, api.MaxId, api.MaxId + 1, math.MaxInt} {
				must(t, asked == of, api.Cond{Kind: api.CondFact, Type: asked}, api.Fact{Id: id, Type: of}, pattern.New(1))
				must(t, asked == of, api.Cond{Kind: api.CondNot, Type: asked, Args: []api.Arg{one(1)}}, api.Fact{Id: id, Type: of, Args: numbers(1)}, pattern.New(1))
			}
		}
	}
}

// P10.2: there are four kinds of arguments; what is of none fits nothing.
func TestArgumentKinds(t *testing.T) {
	for kind := range 256 {
		k := api.ArgKind(kind)
		if api.ArgAny <= k && k <= api.ArgConst {
			continue
		}
		for _, v := range values() {
			a := api.Arg{Kind: k, Var: 0, Value: v}
			for _, e := range []pattern.Env{{}, with(pattern.New(1), 0, v)} {
				mustNot(t, asking(a), fact(v), e)
				mustNot(t, asking(anything(), a), fact(v, v), e)
				mustNot(t, asking(a, anything()), fact(v, v), e)
			}
			mustNot(t, asking(bind(0), a), fact(v, v), pattern.New(1))
			mustNot(t, asking(a, bind(0)), fact(v, v), pattern.New(1))
		}
	}
}

// P10.2: what a kind does not use plays no part.
func TestOtherFields(t *testing.T) {
	tests := []api.Expr{{}, {Kind: api.ExprConst, Value: number(0)}, {Kind: 9, Op: 255, Var: -1, Kids: make([]api.Expr, 3)}}
	for _, v := range values() {
		for _, at := range []int{math.MinInt, -1, 0, 1, 2, math.MaxInt} {
			for _, test := range tests {
				c := asking(api.Arg{Kind: api.ArgAny, Var: at, Value: v}, api.Arg{Kind: api.ArgBind, Var: 0, Value: v}, api.Arg{Kind: api.ArgVar, Var: 1, Value: v}, api.Arg{Kind: api.ArgConst, Var: at, Value: number(4)})
				c.Test = test
				e := env(api.Value{}, number(3), number(9))
				mustTell(t, c, fact(numbers(1, 2, 3, 4)...), e, env(numbers(2, 3, 9)...))
				mustNot(t, c, fact(numbers(1, 2, 3, 5)...), e)
				mustNot(t, c, fact(numbers(1, 2, 4, 4)...), e)
			}
		}
	}
}

// envs that are not well made, each by one fault alone, beside one that is.
func notWellMade() []pattern.Env {
	l := []pattern.Env{
		{Has: []bool{true}},
		{Has: []bool{false}},
		{Values: numbers(1)},
		{Values: make([]api.Value, 1)},
		{Has: []bool{}, Values: make([]api.Value, 1)},
		{Has: []bool{true, true}, Values: numbers(1)},
		{Has: []bool{true, false}, Values: numbers(1)},
		{Has: []bool{true}, Values: numbers(1, 2)},
		{Has: []bool{true}, Values: append(numbers(1), api.Value{})},
		{Has: make([]bool, 17), Values: make([]api.Value, 16)},
		{Has: make([]bool, 16), Values: make([]api.Value, 17)},
		{Has: make([]bool, 1), Values: make([]api.Value, 1000)},
	}
	for _, many := range []int{1, 2, 3, 16, 17} {
		for at := range many {
			for _, v := range []api.Value{number(0), number(1), name("a"), {Kind: 1}, {Kind: 2}, {Kind: 255}, {Num: 1}, {Num: -1}, {Text: "a"}, {Text: "\x00"}} {
				bad := pattern.New(0)
				for i := range many {
					bad.Has, bad.Values = append(bad.Has, i%2 == 0), append(bad.Values, api.Value{})
				}
				bad.Has[at], bad.Values[at] = false, v
				l = append(l, bad)
			}
		}
	}
	return l
}

// P10.2: nothing matches under an env that is not well made, whatever is asked, also where its variables are not.
func TestNotWellMade(t *testing.T) {
	for _, e := range notWellMade() {
		if wellMade(e) {
			t.Fatalf("%v", e)
		}
		mustNot(t, asking(), fact(), e)
		for _, v := range []api.Value{number(1), name("a"), {}} {
			for _, a := range []api.Arg{anything(), bind(0), bind(1), variable(0), variable(1), constant(v)} {
				mustNot(t, asking(a), fact(v), e)
			}
			mustNot(t, asking(bind(0), variable(0)), fact(v, v), e)
		}
	}
}

// P10.2: an env is made well by its variables that are there having any values, and by those that are not having none.
func TestWellMade(t *testing.T) {
	for _, v := range values() {
		for _, e := range []pattern.Env{{Has: []bool{true}, Values: []api.Value{v}}, {Has: []bool{false, true, false}, Values: []api.Value{{}, v, {}}}} {
			mustTell(t, asking(), fact(), e, e)
			mustTell(t, asking(anything()), fact(v), e, e)
		}
	}
	for n := range 40 {
		e := pattern.Env{Has: make([]bool, n), Values: make([]api.Value, n)}
		mustTell(t, asking(), fact(), e, e)
		if n > 0 {
			mustTell(t, asking(bind(n-1)), fact(number(40)), e, with(e, n-1, number(40)))
		}
	}
}
