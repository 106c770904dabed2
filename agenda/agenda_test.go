package agenda_test

import (
	"fmt"
	"math"
	"slices"
	"testing"

	"ropewalk/agenda"
	"ropewalk/api"
)

func token(rule int, ids ...int) api.Token { return api.Token{Rule: rule, Ids: ids} }

// tokens are matches of one rule.
func tokens(rule int, rows ...[]int) []api.Token {
	var l []api.Token
	for _, ids := range rows {
		l = append(l, token(rule, ids...))
	}
	return l
}

func sameToken(a, b api.Token) bool { return a.Rule == b.Rule && slices.Equal(a.Ids, b.Ids) }

func same(a, b []api.Token) bool { return slices.EqualFunc(a, b, sameToken) }

func isZero(k api.Token) bool { return k.Rule == 0 && k.Ids == nil }

// brief is v as a text for a test's report, cut where it is long.
func brief(v any) string { return fmt.Sprintf("%.1000s", fmt.Sprintf("%+v", v)) }

// rules have these saliences, and nothing else.
func rules(saliences ...int) api.Rules {
	var r api.Rules
	for _, s := range saliences {
		r.Rules = append(r.Rules, api.Rule{Salience: s})
	}
	return r
}

func made(t *testing.T, saliences ...int) *agenda.Agenda {
	t.Helper()
	a := agenda.New(rules(saliences...))
	if a == nil {
		t.Fatalf("none of %s", brief(saliences))
	}
	return a
}

// mustTell tells whether that is next, and those were fired, in that order, when asked twice.
func mustTell(t *testing.T, a *agenda.Agenda, next api.Token, fired ...api.Token) {
	t.Helper()
	for range 2 {
		if told, there := a.Next(); !there || !sameToken(told, next) {
			t.Errorf("Next: %s, %v, not %s", brief(told), there, brief(next))
		}
		mustHaveFired(t, a, fired...)
	}
}

// mustBeSpent tells whether none is next, and those were fired.
func mustBeSpent(t *testing.T, a *agenda.Agenda, fired ...api.Token) {
	t.Helper()
	for range 2 {
		if told, there := a.Next(); there || !isZero(told) {
			t.Errorf("Next: %s, %v", brief(told), there)
		}
		mustHaveFired(t, a, fired...)
	}
}

func mustHaveFired(t *testing.T, a *agenda.Agenda, want ...api.Token) {
	t.Helper()
	if told := a.Fired(); !same(told, want) {
		t.Errorf("Fired: %s, not %s", brief(told), brief(want))
	}
}

func mustSet(t *testing.T, a *agenda.Agenda, row ...api.Token) {
	t.Helper()
	if err := a.Set(row...); err != api.OK {
		t.Errorf("Set(%s): %v", brief(row), err)
	}
}

func mustFire(t *testing.T, a *agenda.Agenda, row ...api.Token) {
	t.Helper()
	for _, k := range row {
		if err := a.Fire(k); err != api.OK {
			t.Errorf("Fire(%s): %v", brief(k), err)
		}
	}
}

// told is what is next, if there is something, and what was fired.
func told(a *agenda.Agenda) []api.Token {
	next, there := a.Next()
	if !there {
		next.Rule = -99
	}
	return append([]api.Token{next}, a.Fired()...)
}

// mustNotSet tells whether a row is refused, and changes nothing of what is next and was fired.
func mustNotSet(t *testing.T, a *agenda.Agenda, row ...api.Token) {
	t.Helper()
	ahead := told(a)
	if err := a.Set(row...); err != api.ErrShape {
		t.Errorf("Set(%s): %v", brief(row), err)
	}
	if behind := told(a); !same(ahead, behind) {
		t.Errorf("Set(%s): %s, ahead %s", brief(row), brief(behind), brief(ahead))
	}
}

func mustNotFire(t *testing.T, a *agenda.Agenda, row ...api.Token) {
	t.Helper()
	ahead := told(a)
	for _, k := range row {
		if err := a.Fire(k); err != api.ErrNone {
			t.Errorf("Fire(%s): %v", brief(k), err)
		}
		if behind := told(a); !same(ahead, behind) {
			t.Errorf("Fire(%s): %s, ahead %s", brief(k), brief(behind), brief(ahead))
		}
	}
}

// drained fires what is next till there is none, and tells in which order.
func drained(t *testing.T, a *agenda.Agenda) []api.Token {
	t.Helper()
	var l []api.Token
	for k, there := a.Next(); there; k, there = a.Next() {
		mustFire(t, a, k)
		l = append(l, k)
	}
	return l
}

// mustStand tells whether each of a row stands ahead of all behind it, by Better and by an agenda, in whatever of some orders it is set.
func mustStand(t *testing.T, saliences []int, row ...api.Token) {
	t.Helper()
	for i, x := range row {
		for j, y := range row {
			if agenda.Better(rules(saliences...), x, y) != (i < j) {
				t.Errorf("Better(%s, %s, %s): %v", brief(saliences), brief(x), brief(y), i >= j)
			}
		}
	}
	turned := slices.Clone(row)
	slices.Reverse(turned)
	half := len(row) / 2
	for _, l := range [][]api.Token{row, turned, slices.Concat(row[half:], row[:half])} {
		a := made(t, saliences...)
		mustSet(t, a, l...)
		if got := drained(t, a); !same(got, row) {
			t.Errorf("%s: %s, not %s", brief(l), brief(got), brief(row))
		}
		mustBeSpent(t, a, row...)
	}
}

// Example 1 of the chapter: what stands ahead of what.
func TestExampleOfBetter(t *testing.T) {
	r := rules(0, 5)
	first, second, third := token(0, 9, 8), token(0, 9, 7), token(0, 9)
	if !agenda.Better(r, first, second) || !agenda.Better(r, first, third) {
		t.Error("9 8 is not ahead")
	}
	for _, k := range []api.Token{first, second, third} {
		if !agenda.Better(r, token(1, 1), k) || agenda.Better(r, k, token(1, 1)) {
			t.Errorf("%v", k)
		}
	}
	if !agenda.Better(r, token(0, 8, 9), first) {
		t.Error("8 9 is not ahead")
	}
	mustStand(t, []int{0, 5}, token(1, 1), token(0, 8, 9), first, second, third)
}

// Example 1 of the chapter: what is set and fired.
func TestExampleOfSet(t *testing.T) {
	a := made(t, 0, 5)
	mustBeSpent(t, a)
	mustSet(t, a, token(0, 1), token(1, 1))
	mustTell(t, a, token(1, 1))
	mustFire(t, a, token(1, 1))
	mustTell(t, a, token(0, 1), token(1, 1))
	mustSet(t, a, token(0, 1), token(1, 1))
	mustTell(t, a, token(0, 1), token(1, 1))
	mustSet(t, a, token(0, 1))
	mustTell(t, a, token(0, 1))
	mustSet(t, a, token(0, 1), token(1, 1))
	mustTell(t, a, token(1, 1))
}

// P14.1: the greater salience stands ahead, whatever the Ids and the rules' numbers are, also at the ends of int.
func TestSaliences(t *testing.T) {
	for _, l := range [][]int{
		{1, 0}, {0, -1}, {5, -5}, {api.MaxSalience, api.MaxSalience - 1}, {-api.MaxSalience, -api.MaxSalience - 1},
		{math.MaxInt, math.MaxInt - 1}, {math.MaxInt, 0}, {math.MaxInt, math.MinInt}, {0, math.MinInt}, {math.MinInt + 1, math.MinInt}, {1, math.MinInt}, {math.MaxInt, -2}, {1 << 32, 0}, {0, -1 << 32}, {1<<32 + 1, 2},
	} {
		for _, row := range [][]int{nil, {1}, {2, 1}, {math.MinInt}} {
			for _, other := range [][]int{nil, {1}, {9, 9, 9}, {math.MaxInt}} {
				mustStand(t, l, token(0, row...), token(1, other...))
				mustStand(t, []int{l[1], l[0]}, token(1, row...), token(0, other...))
			}
		}
	}
}

// P14.1: where saliences are the same, the rules' numbers come only behind the Ids.
func TestSameSaliences(t *testing.T) {
	for _, s := range []int{0, 1, -1, api.MaxSalience, math.MaxInt, math.MinInt} {
		l := []int{s, s, s}
		mustStand(t, l, token(0, 1), token(1, 1), token(2, 1))
		mustStand(t, l, token(2, 3), token(1, 2), token(0, 1))
		mustStand(t, l, token(0), token(1), token(2))
		mustStand(t, l, token(2, 1), token(0), token(1))
		mustStand(t, l, token(0, 2, 1), token(1, 1, 2), token(2, 1, 2), token(2, 2, 1))
	}
	mustStand(t, []int{1, 3, 1, 3}, token(1, 2), token(3, 2), token(1, 1), token(3, 1), token(2, 5), token(0, 4), token(2, 4))
}

// P14.1: rows of Ids are held against each other sorted, the greatest first, one by one; of two of which one begins with the other the longer one stands ahead.
func TestIds(t *testing.T) {
	mustStand(t, []int{0}, tokens(0, []int{3}, []int{2}, []int{1}, nil)...)
	mustStand(t, []int{0}, tokens(0, []int{3, 2, 1}, []int{3, 2}, []int{3, 1}, []int{3}, []int{2, 1}, []int{2}, []int{1}, nil)...)
	mustStand(t, []int{0}, tokens(0, []int{1, 1, 9}, []int{1, 9}, []int{8, 8, 8, 8, 8, 8, 8, 8}, []int{8, 8, 8})...)
	mustStand(t, []int{0}, tokens(0, []int{1, 2, 10}, []int{9, 8, 7})...)
	mustStand(t, []int{0}, tokens(0, []int{5, 1, 7, 3}, []int{7, 5, 2, 9, 9, 9}[:3], []int{7, 5, 1}, []int{1, 7, 4})...)
	// An Id twice counts twice.
	mustStand(t, []int{0}, tokens(0, []int{4, 4, 4}, []int{4, 4}, []int{1, 4, 3}, []int{4, 3}, []int{4})...)
	mustStand(t, []int{0}, tokens(0, []int{2, 2, 1}, []int{1, 1, 2})...)
}

// P14.1: of the same Ids in another order, the lesser one at the first place at which they are not the same stands ahead.
func TestOrderOfIds(t *testing.T) {
	mustStand(t, []int{0}, tokens(0, []int{8, 9}, []int{9, 8})...)
	mustStand(t, []int{0}, tokens(0, []int{1, 2, 3}, []int{1, 3, 2}, []int{2, 1, 3}, []int{2, 3, 1}, []int{3, 1, 2}, []int{3, 2, 1})...)
	mustStand(t, []int{0}, tokens(0, []int{1, 1, 2}, []int{1, 2, 1}, []int{2, 1, 1})...)
	mustStand(t, []int{0}, tokens(0, []int{-1, 1, 0}, []int{0, -1, 1}, []int{0, 1, -1}, []int{1, 0, -1})...)
	mustStand(t, []int{0}, tokens(0, []int{math.MinInt, math.MaxInt}, []int{math.MaxInt, math.MinInt})...)
	mustStand(t, []int{7, 7}, token(0, 3, 4), token(0, 4, 3), token(1, 3, 4), token(1, 4, 3))
}

// P14.1: Ids may be any numbers, below 0 and at the ends of int, too.
func TestAnyIds(t *testing.T) {
	row := [][]int{{math.MaxInt, math.MaxInt}, {math.MaxInt, math.MinInt}, {math.MaxInt}, {math.MaxInt - 1}, {api.MaxId + 1}, {api.MaxId}, {1 << 32}, {1}, {0, 0}, {0, -1}, {0}, {-1, -1}, {-1, -2}, {-1, math.MinInt}, {-1}, {-2}, {-1 << 32}, {math.MinInt + 1}, {math.MinInt, math.MinInt}, {math.MinInt}, nil}
	mustStand(t, []int{0}, tokens(0, row...)...)
	mustStand(t, []int{-3, math.MinInt}, append(tokens(0, row...), tokens(1, row...)...)...)
}

// P14.1: the salience of a match of no rule is 0.
func TestBetterOfNoRule(t *testing.T) {
	outside := []int{math.MinInt, -1 << 32, -2, -1, 2, 3, 64, 1 << 32, math.MaxInt}
	for _, rule := range outside {
		for _, k := range []struct {
			saliences []int
			ahead     bool
		}{{[]int{1, 1}, false}, {[]int{-1, -1}, true}, {[]int{math.MaxInt, math.MaxInt}, false}, {[]int{math.MinInt, math.MinInt}, true}} {
			r, none, some := rules(k.saliences...), token(rule, 1), token(1, 1)
			if agenda.Better(r, none, some) != k.ahead || agenda.Better(r, some, none) == k.ahead {
				t.Errorf("%d, %v", rule, k)
			}
		}
		r := rules(0, 0)
		if !agenda.Better(r, token(rule, 2), token(1, 1)) || agenda.Better(r, token(rule), token(1, 1)) || agenda.Better(r, token(rule, 2, 1), token(1, 1, 2)) != (rule < 1) || agenda.Better(r, token(1, 2, 1), token(rule, 1, 2)) != (rule > 1) {
			t.Errorf("%d", rule)
		}
		if agenda.Better(r, token(rule, 1), token(rule, 1)) || !agenda.Better(r, token(rule, 1, 2), token(rule, 2, 1)) || agenda.Better(r, token(rule, 2, 1), token(rule, 1, 2)) {
			t.Errorf("%d with itself", rule)
		}
	}
	for i, rule := range outside {
		for j, other := range outside {
			for _, l := range [][]int{nil, {5}, {7, 7}} {
				if agenda.Better(rules(l...), token(rule, 4), token(other, 4)) != (i < j) {
					t.Errorf("%d, %d", rule, other)
				}
			}
		}
	}
}

// P14.1: Better takes as many rules as there are.
func TestBetterOfManyRules(t *testing.T) {
	l := make([]int, 1000)
	for i := range l {
		l[i] = i * 7 % 1000
	}
	r := rules(l...)
	for i := range l {
		j := (i*13 + 1) % 1000
		if agenda.Better(r, token(i, 5), token(j, 5)) != (l[i] > l[j]) {
			t.Errorf("%d, %d", i, j)
		}
	}
}

// P14.1: an agenda is of at most 64 rules; those need not be right.
func TestNew(t *testing.T) {
	for n := range 300 {
		if a := agenda.New(rules(make([]int, n)...)); (a == nil) != (n > 64) {
			t.Errorf("%d: %v", n, a)
		}
	}
	if a := agenda.New(rules(make([]int, 1<<20)...)); a != nil {
		t.Error("of very many")
	}
	var l []int
	for n := range 64 {
		l = append(l, n*5%64)
	}
	a := made(t, l...)
	mustBeSpent(t, a)
	var row []api.Token
	for n := range 64 {
		row = append(row, token(n, n))
	}
	mustSet(t, a, row...)
	for i, k := range drained(t, a) {
		if l[k.Rule] != 63-i {
			t.Errorf("%d: %v", i, k)
		}
	}
	for _, r := range []api.Rules{{}, {Rules: []api.Rule{}}, {Types: make([]api.Type, 99)}} {
		a := agenda.New(r)
		mustBeSpent(t, a)
		mustSet(t, a)
		mustNotSet(t, a, token(0))
	}
	wrong := agenda.New(api.Rules{Rules: []api.Rule{{Vars: -1, Conds: make([]api.Cond, 99)}, {Salience: 99999}}})
	mustSet(t, wrong, token(0, 9), token(1, 1))
	mustTell(t, wrong, token(1, 1))
}
