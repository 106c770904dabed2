package pattern_test

import (
	"fmt"
	"math"
	"reflect"
	"slices"
	"strings"
	"testing"

	"ropewalk/api"
	"ropewalk/check"
	"ropewalk/pattern"
)

const (
	most  = math.MaxInt64
	least = math.MinInt64
)

func number(n int64) api.Value { return api.Value{Kind: api.Int, Num: n} }

func name(text string) api.Value { return api.Value{Kind: api.Name, Text: text} }

func numbers(l ...int64) []api.Value {
	var values []api.Value
	for _, n := range l {
		values = append(values, number(n))
	}
	return values
}

func anything() api.Arg { return api.Arg{Kind: api.ArgAny} }

func bind(n int) api.Arg { return api.Arg{Kind: api.ArgBind, Var: n} }

func variable(n int) api.Arg { return api.Arg{Kind: api.ArgVar, Var: n} }

func constant(v api.Value) api.Arg { return api.Arg{Kind: api.ArgConst, Value: v} }

func one(n int64) api.Arg { return constant(number(n)) }

// asking is a condition of type 3, as facts of fact are.
func asking(args ...api.Arg) api.Cond { return api.Cond{Kind: api.CondFact, Type: 3, Args: args} }

func fact(values ...api.Value) api.Fact { return api.Fact{Id: 9, Type: 3, Args: values} }

// env has the values that are not zero.
func env(values ...api.Value) pattern.Env {
	e := pattern.Env{}
	for _, v := range values {
		e.Has, e.Values = append(e.Has, v != (api.Value{})), append(e.Values, v)
	}
	return e
}

// with is e, in rows of its own, where the variable n has v.
func with(e pattern.Env, n int, v api.Value) pattern.Env {
	e = copied(e)
	e.Has[n], e.Values[n] = true, v
	return e
}

func copied(e pattern.Env) pattern.Env {
	return pattern.Env{Has: slices.Clone(e.Has), Values: slices.Clone(e.Values)}
}

func same(a, b pattern.Env) bool {
	return slices.Equal(a.Has, b.Has) && slices.Equal(a.Values, b.Values)
}

func wellMade(e pattern.Env) bool {
	right := len(e.Has) == len(e.Values)
	for i := 0; right && i < len(e.Has); i++ {
		right = e.Has[i] || e.Values[i] == api.Value{}
	}
	return right
}

// values are some of any sort: right ones, and such as no fact may have; each pair of them differs, some in one field alone.
func values() []api.Value {
	return []api.Value{
		number(0), number(1), number(-1), number(5), number(most), number(least), name("a"), name("ab"), name("b"), name(strings.Repeat("z", api.MaxName)),
		{}, {Num: 1}, {Text: "a"}, {Kind: 3}, {Kind: 3, Num: 1}, {Kind: 3, Text: "a"}, {Kind: 255, Num: 5}, {Kind: api.Int, Num: 1, Text: "a"}, {Kind: api.Int, Text: "a"},
		{Kind: api.Name}, {Kind: api.Name, Num: 1}, {Kind: api.Name, Num: 1, Text: "a"}, name("A"), name("a\x00"), name(strings.Repeat("z", api.MaxName+1)),
	}
}

// brief is v as a text for a test's report, cut where it is long.
func brief(v any) string { return fmt.Sprintf("%.1000s", fmt.Sprintf("%+v", v)) }

// match is what Match tells: nothing beside false; the same each time, and by Some; of CondNot the same as of CondFact; all arguments stay as they are.
func match(t *testing.T, c api.Cond, f api.Fact, e pattern.Env) (pattern.Env, bool) {
	t.Helper()
	aheadArgs, aheadValues, aheadEnv := slices.Clone(c.Args), slices.Clone(f.Args), copied(e)
	told, is := pattern.Match(c, f, e)
	if again, isAgain := pattern.Match(c, f, e); !same(again, told) || isAgain != is {
		t.Errorf("%s, %s, %s: %s, %v; then %s, %v", brief(c), brief(f), brief(e), brief(told), is, brief(again), isAgain)
	}
	if some := pattern.Some(c, e, f); some != is {
		t.Errorf("%s, %s, %s: %v; by Some %v", brief(c), brief(f), brief(e), is, some)
	}
	other := c
	other.Kind = api.CondFact + api.CondNot - c.Kind
	if byOther, isByOther := pattern.Match(other, f, e); !same(byOther, told) || isByOther != is {
		t.Errorf("%s, %s, %s: %s, %v; of kind %d %s, %v", brief(c), brief(f), brief(e), brief(told), is, other.Kind, brief(byOther), isByOther)
	}
	if !is && (len(told.Has) > 0 || len(told.Values) > 0) || is && (len(told.Has) != len(e.Has) || !wellMade(told)) {
		t.Errorf("%s, %s, %s: %s, %v", brief(c), brief(f), brief(e), brief(told), is)
	}
	if !reflect.DeepEqual(c.Args, aheadArgs) || !slices.Equal(f.Args, aheadValues) || !same(e, aheadEnv) {
		t.Errorf("%s, %s, %s was changed to %s, %s, %s", brief(aheadArgs), brief(aheadValues), brief(aheadEnv), brief(c.Args), brief(f.Args), brief(e))
	}
	return told, is
}

func mustTell(t *testing.T, c api.Cond, f api.Fact, e, want pattern.Env) {
	t.Helper()
	if told, is := match(t, c, f, e); !is || !same(told, want) {
		t.Errorf("%s, %s, %s: %s, %v, not %s", brief(c), brief(f), brief(e), brief(told), is, brief(want))
	}
}

func mustNot(t *testing.T, c api.Cond, f api.Fact, e pattern.Env) {
	t.Helper()
	if told, is := match(t, c, f, e); is {
		t.Errorf("%s, %s, %s: %s, %v", brief(c), brief(f), brief(e), brief(told), is)
	}
}

// must holds what Match tells against whether it should match, with e as it is.
func must(t *testing.T, is bool, c api.Cond, f api.Fact, e pattern.Env) {
	t.Helper()
	if is {
		mustTell(t, c, f, e, e)
	} else {
		mustNot(t, c, f, e)
	}
}

// P10.2: the chapter's examples.
func TestExamples(t *testing.T) {
	c := asking(anything(), bind(0), variable(0), one(5))
	for _, n := range []int{1, 2, 16} {
		mustTell(t, c, fact(numbers(1, 2, 2, 5)...), pattern.New(n), with(pattern.New(n), 0, number(2)))
		mustNot(t, c, fact(numbers(1, 2, 3, 5)...), pattern.New(n))
	}
	mustNot(t, asking(variable(1)), fact(number(1)), pattern.New(1))
	mustNot(t, asking(variable(1)), fact(number(1)), env(number(1)))
}

// P10.1: envs of so many variables, none of which is there.
func TestNew(t *testing.T) {
	for n := range api.MaxVars + 1 {
		e := pattern.New(n)
		if len(e.Has) != n || len(e.Values) != n || slices.Contains(e.Has, true) || !wellMade(e) {
			t.Errorf("%d: %v", n, e)
		}
	}
	for _, n := range []int{-1, -2, -16, -17, math.MinInt, math.MinInt + 1, 17, 18, 100, 1 << 20, 1 << 32, 1<<32 + 3, 1 << 40, math.MaxInt} {
		if e := pattern.New(n); len(e.Has) > 0 || len(e.Values) > 0 {
			t.Errorf("%d: %s", n, brief(e))
		}
	}
}

// P10.1, R3: each env is memory of its own.
func TestNewLiesApart(t *testing.T) {
	for n := 1; n <= api.MaxVars; n++ {
		first, second := pattern.New(n), pattern.New(n)
		for i := range n {
			first.Has[i], first.Values[i] = true, number(7)
		}
		if third := pattern.New(n); slices.Contains(second.Has, true) || !wellMade(second) || slices.Contains(third.Has, true) || !wellMade(third) {
			t.Errorf("%d: %v, %v", n, second, third)
		}
	}
}

// P10.2: ArgAny fits each value, and leaves the env as it is.
func TestAny(t *testing.T) {
	for _, v := range values() {
		mustTell(t, asking(anything()), fact(v), pattern.Env{}, pattern.Env{})
		mustTell(t, asking(anything()), fact(v), pattern.New(3), pattern.New(3))
		mustTell(t, asking(anything()), fact(v), env(number(5), api.Value{}, name("a")), env(number(5), api.Value{}, name("a")))
	}
}

// P10.2: ArgBind fits each value, which its variable has then, whatever it had; all others have what they had.
func TestBind(t *testing.T) {
	for _, v := range values() {
		for n := 1; n <= api.MaxVars+1; n++ {
			for at := range n {
				empty := env(make([]api.Value, n)...)
				mustTell(t, asking(bind(at)), fact(v), empty, with(empty, at, v))
			}
		}
		for _, had := range values() {
			e := with(with(pattern.New(5), 1, had), 3, had)
			for at := range 5 {
				mustTell(t, asking(bind(at)), fact(v), e, with(e, at, v))
			}
		}
	}
}

// P10.2: ArgVar fits what its variable has, if that is there.
func TestVariable(t *testing.T) {
	for i, had := range values() {
		for k, v := range values() {
			e := with(pattern.New(4), 2, had)
			must(t, i == k, asking(variable(2)), fact(v), e)
			mustNot(t, asking(variable(0)), fact(v), e)
			mustNot(t, asking(variable(3)), fact(v), e)
			must(t, i == k, asking(variable(0)), fact(v), with(pattern.New(1), 0, had))
		}
	}
}

// P10.2: zero, that is there, is the value of a variable; one that is not there has none, though zero stands there.
func TestZeroIsThere(t *testing.T) {
	nothing := api.Value{}
	mustNot(t, asking(variable(0)), fact(nothing), pattern.New(1))
	mustTell(t, asking(variable(0)), fact(nothing), with(pattern.New(1), 0, nothing), with(pattern.New(1), 0, nothing))
	mustTell(t, asking(bind(0)), fact(nothing), pattern.New(1), with(pattern.New(1), 0, nothing))
	mustTell(t, asking(bind(0), variable(0)), fact(nothing, nothing), pattern.New(1), with(pattern.New(1), 0, nothing))
	mustNot(t, asking(bind(0), variable(1)), fact(nothing, nothing), pattern.New(2))
}

// P10.2: ArgConst fits the same value.
func TestConstant(t *testing.T) {
	for i, asked := range values() {
		for k, v := range values() {
			must(t, i == k, asking(constant(asked)), fact(v), pattern.Env{})
			must(t, i == k, asking(constant(asked)), fact(v), env(v, asked, api.Value{}))
		}
	}
}

// P10.2: two values are the same, if all their fields are.
func TestSame(t *testing.T) {
	long := strings.Repeat("ab", 1<<16)
	for _, c := range []struct {
		a, b api.Value
		want bool
	}{
		{number(7), number(7), true},
		{number(7), number(8), false},
		{number(1), number(1 << 32), false},
		{number(most), number(least), false},
		{number(7), api.Value{Kind: api.Name, Num: 7}, false},
		{number(7), api.Value{Kind: api.Int, Num: 7, Text: "7"}, false},
		{number(7), api.Value{Num: 7}, false},
		{name("ab"), name("a" + string([]byte{'b'})), true},
		{name("ab"), name("abc"), false},
		{name("ab"), name("AB"), false},
		{name("ab"), api.Value{Kind: api.Name, Num: 1, Text: "ab"}, false},
		{name("ab"), api.Value{Kind: api.Int, Text: "ab"}, false},
		{api.Value{Kind: 9, Num: 1, Text: "x y"}, api.Value{Kind: 9, Num: 1, Text: "x " + string([]byte{'y'})}, true},
		{name(long), name(strings.Clone(long)), true},
		{name(long), name(long + "a"), false},
		{name(long + "a"), name(long + "b"), false},
	} {
		for _, pair := range [][2]api.Value{{c.a, c.b}, {c.b, c.a}} {
			must(t, c.want, asking(constant(pair[0])), fact(pair[1]), pattern.New(2))
			must(t, c.want, asking(variable(1)), fact(pair[1]), with(pattern.New(2), 1, pair[0]))
			told, is := match(t, asking(bind(1), variable(1)), fact(pair[0], pair[1]), pattern.New(2))
			if is != c.want || is && !same(told, with(pattern.New(2), 1, pair[0])) {
				t.Errorf("%s, %s: %s, %v", brief(pair[0]), brief(pair[1]), brief(told), is)
			}
		}
	}
}

// P10.2: which variables there are, for ArgBind and for ArgVar.
func TestWhichVariables(t *testing.T) {
	for _, many := range []int{0, 1, 2, 3, 15, 16, 17, 1000} {
		var all []api.Value
		for i := range many {
			all = append(all, number(int64(i)*7-3))
		}
		e := env(all...)
		for _, at := range []int{math.MinInt, -1 << 32, -many - 1, -many, -2, -1, 0, 1, many / 2, many - 2, many - 1, many, many + 1, 2 * many, 256, 1 << 32, 1<<32 + 1, math.MaxInt} {
			v := number(int64(at)*7 - 3)
			if at < 0 || at >= many {
				mustNot(t, asking(bind(at)), fact(v), e)
				mustNot(t, asking(variable(at)), fact(v), e)
				mustNot(t, asking(variable(at)), fact(api.Value{}), e)
				mustNot(t, asking(anything(), bind(at)), fact(v, v), e)
				mustNot(t, asking(bind(at), variable(at)), fact(v, v), e)
				continue
			}
			mustTell(t, asking(bind(at)), fact(name("a")), e, with(e, at, name("a")))
			mustTell(t, asking(variable(at)), fact(v), e, e)
			mustNot(t, asking(variable(at)), fact(number(5)), e)
			mustTell(t, asking(bind(at), variable(at)), fact(name("a"), name("a")), e, with(e, at, name("a")))
		}
	}
	// What stands behind the rows' ends is no variable.
	row := env(numbers(1, 2, 3)...)
	cut := pattern.Env{Has: row.Has[:2], Values: row.Values[:2]}
	mustNot(t, asking(variable(2)), fact(number(3)), cut)
	mustNot(t, asking(bind(2)), fact(number(3)), cut)
	mustTell(t, asking(bind(1)), fact(number(4)), cut, env(numbers(1, 4)...))
	if !same(row, env(numbers(1, 2, 3)...)) {
		t.Errorf("%v", row)
	}
}

// P10.2: of a variable that is bound twice in one condition, the value behind stays; an ArgVar asks for what was bound last ahead of it.
func TestBoundTwice(t *testing.T) {
	for _, e := range []pattern.Env{pattern.New(2), env(number(9), api.Value{}), env(number(1), number(2)), env(name("a"), name("b"))} {
		mustTell(t, asking(bind(0), bind(0)), fact(numbers(1, 2)...), e, with(e, 0, number(2)))
		mustTell(t, asking(bind(0), bind(0), bind(0)), fact(numbers(1, 2, 1)...), e, with(e, 0, number(1)))
		mustTell(t, asking(bind(0), bind(1), bind(0)), fact(numbers(1, 2, 3)...), e, with(with(e, 0, number(3)), 1, number(2)))
		mustTell(t, asking(bind(0), bind(0), variable(0)), fact(numbers(1, 2, 2)...), e, with(e, 0, number(2)))
		mustNot(t, asking(bind(0), bind(0), variable(0)), fact(numbers(1, 2, 1)...), e)
		mustTell(t, asking(bind(0), variable(0), bind(0), variable(0)), fact(numbers(1, 1, 2, 2)...), e, with(e, 0, number(2)))
		mustNot(t, asking(bind(0), variable(0), bind(0), variable(0)), fact(numbers(1, 2, 2, 2)...), e)
		mustNot(t, asking(bind(0), variable(0), bind(0), variable(0)), fact(numbers(1, 1, 2, 1)...), e)
	}
}

// P10.2: an ArgVar ahead of the ArgBind of its variable asks for what e has.
func TestBoundBehind(t *testing.T) {
	c := asking(variable(0), bind(0))
	mustTell(t, c, fact(numbers(1, 2)...), env(number(1)), env(number(2)))
	mustTell(t, c, fact(numbers(1, 1)...), env(number(1)), env(number(1)))
	mustNot(t, c, fact(numbers(2, 2)...), env(number(1)))
	mustNot(t, c, fact(numbers(2, 1)...), env(number(1)))
	mustNot(t, c, fact(numbers(1, 1)...), pattern.New(1))
	mustNot(t, c, fact(api.Value{}, number(1)), pattern.New(1))
	mustTell(t, asking(variable(0), bind(0), variable(0)), fact(numbers(1, 2, 2)...), env(number(1)), env(number(2)))
	mustNot(t, asking(variable(0), bind(0), variable(0)), fact(numbers(1, 2, 1)...), env(number(1)))
	mustNot(t, asking(variable(1), bind(0), bind(1)), fact(numbers(1, 1, 1)...), env(number(1), api.Value{}))
}

// P10.2: all arguments must fit, wherever the one stands that does not.
func TestAllMustFit(t *testing.T) {
	for many := 1; many <= 8; many++ {
		for at := range many {
			for _, v := range []api.Value{number(2), name("a"), {}} {
				args := slices.Repeat([]api.Arg{bind(1)}, many)
				row := slices.Repeat([]api.Value{v}, many)
				args[at] = constant(v)
				if many > 1 {
					mustTell(t, asking(args...), fact(row...), pattern.New(2), with(pattern.New(2), 1, v))
				}
				row[at] = number(1)
				mustNot(t, asking(args...), fact(row...), pattern.New(2))
				args[at] = variable(0)
				mustNot(t, asking(args...), fact(row...), pattern.New(2))
				mustNot(t, asking(args...), fact(row...), env(number(3), number(4)))
				args[at] = bind(2)
				mustNot(t, asking(args...), fact(row...), pattern.New(2))
			}
		}
	}
}

// P10.2: conditions that a rule has, one behind the other, each under what was told of those ahead.
func TestRule(t *testing.T) {
	r, fault := check.Source("fact p(a, b); rule r { p(?x, 1); p(?x, ?y); not p(?y, ?x); p(_, ?y); => halt; }")
	if fault.Err != api.OK {
		t.Fatal(fault)
	}
	conds := r.Rules[0].Conds
	p := func(a, b int64) api.Fact { return api.Fact{Id: 1, Type: 0, Args: numbers(a, b)} }
	e := pattern.New(r.Rules[0].Vars)
	mustNot(t, conds[0], p(1, 2), e)
	mustTell(t, conds[0], p(1, 1), e, env(number(1), api.Value{}))
	e, _ = pattern.Match(conds[0], p(1, 1), e)
	mustTell(t, conds[1], p(1, 1), e, env(numbers(1, 1)...))
	mustTell(t, conds[1], p(1, 2), e, env(numbers(1, 2)...))
	mustNot(t, conds[1], p(2, 2), e)
	e, _ = pattern.Match(conds[1], p(1, 2), e)
	mustTell(t, conds[2], p(2, 1), e, env(numbers(1, 2)...))
	mustNot(t, conds[2], p(1, 2), e)
	mustTell(t, conds[3], p(7, 2), e, env(numbers(1, 2)...))
	mustNot(t, conds[3], p(7, 1), e)
	if pattern.Some(conds[2], e, p(1, 1), p(1, 2)) || !pattern.Some(conds[2], e, p(1, 1), p(1, 2), p(2, 1)) {
		t.Error("not p(?y, ?x)")
	}
}
