package pattern_test

import (
	"math/rand"
	"testing"

	"ropewalk/api"
	"ropewalk/pattern"
)

// isBoundBehind tells whether a variable is bound behind an ArgVar that asks for it.
func isBoundBehind(args []api.Arg) bool {
	asked := map[int]bool{}
	for _, a := range args {
		if a.Kind == api.ArgVar {
			asked[a.Var] = true
		}
		if a.Kind == api.ArgBind && asked[a.Var] {
			return true
		}
	}
	return false
}

func binds(args []api.Arg) map[int]bool {
	l := map[int]bool{}
	for _, a := range args {
		if a.Kind == api.ArgBind {
			l[a.Var] = true
		}
	}
	return l
}

// matching hands each of many conditions, facts and envs that match to held, with what was told; held tells whether it held something.
func matching(t *testing.T, held func(c api.Cond, f api.Fact, e, told pattern.Env) bool) {
	t.Helper()
	many := 0
	for i := range 20000 {
		c := chance{rand.New(rand.NewSource(int64(i))), i % 3}
		e := c.env(c.Intn(17))
		row := c.row(c.Intn(7))
		cond := c.cond(row, e)
		if told, is := match(t, cond, fact(row...), e); is && held(cond, fact(row...), e, told) {
			many++
		}
	}
	if many < 5000 {
		t.Errorf("%d matched", many)
	}
}

// P10.4: what is told is well made, and has all that e has, but what was bound anew; what was bound is there.
func TestHasAllThatEnvHas(t *testing.T) {
	matching(t, func(c api.Cond, f api.Fact, e, told pattern.Env) bool {
		bound := binds(c.Args)
		for n, has := range told.Has {
			if bound[n] && !has || !bound[n] && (has != e.Has[n] || told.Values[n] != e.Values[n]) {
				t.Errorf("%s, %s, %s: %s", brief(c), brief(f), brief(e), brief(told))
			}
		}
		return true
	})
}

// P10.4: what matches under an env matches under what it told, to the same, if no variable is bound behind an ArgVar that asks for it.
func TestMatchesAnew(t *testing.T) {
	matching(t, func(c api.Cond, f api.Fact, e, told pattern.Env) bool {
		if isBoundBehind(c.Args) {
			return false
		}
		mustTell(t, c, f, told, told)
		return true
	})
}

// P10.4: a variable that is bound behind an ArgVar that asks for it may be another one then.
func TestMayNotMatchAnew(t *testing.T) {
	c, f := asking(variable(0), bind(0)), fact(numbers(1, 2)...)
	told, is := match(t, c, f, env(number(1)))
	if !is || !same(told, env(number(2))) {
		t.Fatalf("%v, %v", told, is)
	}
	mustNot(t, c, f, told)
}

// P10.4: conditions without an ArgBind tell what they were handed, however often.
func TestAskingBindsNothing(t *testing.T) {
	e := env(number(1), api.Value{}, name("a"))
	begun := copied(e)
	for range 100 {
		told, is := match(t, asking(variable(0), anything(), variable(2), one(7)), fact(number(1), name("z"), name("a"), number(7)), e)
		if !is || !same(told, begun) {
			t.Fatalf("%v, %v", told, is)
		}
		e = told
	}
}

// P10.4: a way of conditions, each under what the one ahead told, keeps all that was bound.
func TestWay(t *testing.T) {
	e := pattern.New(api.MaxVars)
	for n := range api.MaxVars {
		told, is := match(t, asking(bind(n), variable(n)), fact(numbers(int64(n), int64(n))...), e)
		if !is {
			t.Fatal(n)
		}
		e = told
		for k := range api.MaxVars {
			if e.Has[k] != (k <= n) || k <= n && e.Values[k] != number(int64(k)) {
				t.Errorf("%d, %d: %v", n, k, e)
			}
		}
	}
}
