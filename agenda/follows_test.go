package agenda_test

import (
	"math/rand"
	"slices"
	"testing"

	"ropewalk/agenda"
	"ropewalk/api"
)

// P14.4: of two that are not the same just one stands ahead of the other; of two that are, none.
func TestJustOne(t *testing.T) {
	l := all([]int{-3, 0, 1, 2, 9}, rows(3, -1, 1, 4))
	for _, s := range [][]int{nil, {0, 0, 0}, {2, 0, -2}, {0, 1, 1}} {
		r := rules(s...)
		for i, a := range l {
			for j, b := range l {
				x, y := agenda.Better(r, a, b), agenda.Better(r, b, a)
				if i == j && (x || y) || i != j && x == y {
					t.Fatalf("%v: %v, %v: %v, %v", s, a, b, x, y)
				}
			}
		}
	}
	for _, k := range l {
		other := api.Token{Rule: k.Rule, Ids: append([]int{}, k.Ids...)}
		if agenda.Better(rules(7, 7), k, other) || agenda.Better(rules(7, 7), other, k) {
			t.Errorf("%v is ahead of itself", k)
		}
	}
}

// P14.4: what stands ahead of one stands ahead of all that this one stands ahead of.
func TestGoesOn(t *testing.T) {
	l := all([]int{-1, 0, 1, 2}, rows(2, 1, 2, 3))
	for _, s := range [][]int{{0, 0}, {1, 0}, {-1, 1}} {
		r := rules(s...)
		better := make([][]bool, len(l))
		for i, a := range l {
			for _, b := range l {
				better[i] = append(better[i], agenda.Better(r, a, b))
			}
		}
		for i := range l {
			for j := range l {
				for k := range l {
					if better[i][j] && better[j][k] && !better[i][k] {
						t.Fatalf("%v: %v, %v, %v", s, l[i], l[j], l[k])
					}
				}
			}
		}
	}
}

// P14.4: what Next tells it tells till that is fired, or does not hold any more, or one that stands ahead of it comes.
func TestToldTillFired(t *testing.T) {
	a := made(t, 0, 2)
	first := token(0, 5)
	mustSet(t, a, first, token(0, 4))
	for range 5 {
		mustTell(t, a, first)
		mustNotFire(t, a, token(0, 6), token(1, 5))
		mustNotSet(t, a, token(2))
	}
	mustSet(t, a, token(0, 3), first)
	mustTell(t, a, first)
	mustSet(t, a, token(0, 3), first, token(0, 4), token(0, 4, 4))
	mustFire(t, a, token(0, 4, 4), token(0, 3))
	mustTell(t, a, first, token(0, 4, 4), token(0, 3))
	mustSet(t, a, token(0, 3), first, token(1))
	mustTell(t, a, token(1), token(0, 3))
	mustSet(t, a, token(0, 3), first)
	mustTell(t, a, first, token(0, 3))
	mustSet(t, a, token(0, 3))
	mustBeSpent(t, a, token(0, 3))
	mustSet(t, a, token(0, 3), first)
	mustFire(t, a, first)
	mustBeSpent(t, a, first, token(0, 3))
}

// P14.4: a match that stays, while any others come, go and are fired, is told once all ahead of it are fired.
func TestEachIsTold(t *testing.T) {
	for seed := range 200 {
		c := chanceOf(int64(seed))
		s := c.saliences()
		a := made(t, s...)
		stays := token(0, -5, -5)
		row := []api.Token{stays}
		for range 20 {
			row = slices.DeleteFunc(c.row(row), func(k api.Token) bool {
				return sameToken(k, stays) || k.Rule < 0 || k.Rule >= len(s)
			})
			if twice(row) {
				row = nil
			}
			row = append(row, stays)
			mustSet(t, a, row...)
			mustStillComes(t, s, a, stays)
		}
	}
}

// mustStillComes fires what stands ahead of k, till k is told.
func mustStillComes(t *testing.T, saliences []int, a *agenda.Agenda, k api.Token) {
	t.Helper()
	for {
		next, there := a.Next()
		if !there {
			t.Fatalf("%v was not told", k)
		}
		if sameToken(next, k) {
			return
		}
		if !ahead(saliences, next, k) {
			t.Fatalf("%v is told, not %v", next, k)
		}
		mustFire(t, a, next)
	}
}

// P14.2, P14.3: in whatever order matches are set, whatever held ahead, the same are told.
func TestOrderOfSet(t *testing.T) {
	r := rand.New(rand.NewSource(1))
	row := all([]int{0, 1, 2}, rows(3, 1, 2, 7))
	s := []int{1, 0, 1}
	a := made(t, s...)
	mustSet(t, a, row...)
	want := drained(t, a)
	if len(want) != len(row) {
		t.Error(len(want))
	}
	for range 30 {
		a := made(t, s...)
		mustSet(t, a, row[r.Intn(len(row)):]...)
		mixed := slices.Clone(row)
		r.Shuffle(len(mixed), func(i, j int) { mixed[i], mixed[j] = mixed[j], mixed[i] })
		mustSet(t, a, mixed...)
		if got := drained(t, a); !same(got, want) {
			t.Fatalf("%v", got)
		}
		r.Shuffle(len(mixed), func(i, j int) { mixed[i], mixed[j] = mixed[j], mixed[i] })
		mustSet(t, a, mixed...)
		mustBeSpent(t, a, want...)
	}
}
