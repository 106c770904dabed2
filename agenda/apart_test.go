package agenda_test

import (
	"math"
	"reflect"
	"slices"
	"sync"
	"testing"

	"ropewalk/agenda"
	"ropewalk/api"
)

// over writes over all that can be reached, also behind ends.
func over(l []api.Token) {
	for i := range l {
		ids := l[i].Ids[:cap(l[i].Ids)]
		for at := range ids {
			ids[at] = 77
		}
		l[i] = api.Token{Rule: 55, Ids: []int{66}}
	}
}

// several are matches that stand, each ahead of the next one, where all saliences are the same.
func several() []api.Token {
	return []api.Token{token(1, 3, 9), token(0, 1, 8), token(0, 8, 1), token(2, 8), token(0, 7), token(1, 7), token(2)}
}

// R3: matches that were set, and the row that they came in, stay as they are, also behind their ends, and are not kept.
func TestSetIsNotKept(t *testing.T) {
	a := made(t, 4, 4, 4)
	row := several()
	for i := range row {
		row[i].Ids = append(row[i].Ids, 31, 32, 33)[:len(row[i].Ids)]
	}
	slices.Reverse(row)
	long := append(slices.Clone(row), token(8, 8))[:len(row)]
	mustSet(t, a, long...)
	mustFire(t, a, several()[1])
	mustSet(t, a, long...)
	mustNotSet(t, a, append(slices.Clone(long), long[0])...)
	want := several()
	slices.Reverse(want)
	if !same(long, want) || !sameToken(long[:len(long)+1][len(long)], token(8, 8)) {
		t.Errorf("%v", long)
	}
	for _, k := range long {
		if n := len(k.Ids); !slices.Equal(k.Ids[n:n+3], []int{31, 32, 33}) {
			t.Errorf("%v", k.Ids[:n+3])
		}
	}
	over(long)
	over(row)
	mustTell(t, a, several()[0], several()[1])
	mustNotFire(t, a, token(55, 66), token(0, 77), token(0, 77, 77))
	mustSet(t, a, several()...)
	mustTell(t, a, several()[0], several()[1])
	if got := drained(t, a); !same(got, slices.Delete(several(), 1, 2)) {
		t.Errorf("%v", got)
	}
}

// R3: a match that was fired stays as it is, and is not kept.
func TestFireIsNotKept(t *testing.T) {
	a := made(t, 4, 4, 4)
	mustSet(t, a, several()...)
	for i, k := range several() {
		k.Ids = append(k.Ids, 31)[:len(k.Ids)]
		mustFire(t, a, k)
		mustNotFire(t, a, k)
		if n := len(k.Ids); !sameToken(k, several()[i]) || k.Ids[:n+1][n] != 31 {
			t.Errorf("%v", k)
		}
		over([]api.Token{k})
		mustHaveFired(t, a, several()[:i+1]...)
	}
	mustSet(t, a, several()...)
	mustBeSpent(t, a, several()...)
}

// R3: rules and matches that Better is handed stay as they are.
func TestBetterChangesNothing(t *testing.T) {
	r := rules(3, -2, 3)
	r.Rules[1].Conds = []api.Cond{{Kind: api.CondNot}}
	begun := rules(3, -2, 3)
	begun.Rules[1].Conds = []api.Cond{{Kind: api.CondNot}}
	l := all([]int{-1, 0, 1, 2, 3}, [][]int{nil, {1, 3, 2}, {3, 1, 2}, {2, 2, 5, 1}, {1, math.MaxInt, math.MinInt}})
	for i := range l {
		l[i].Ids = append(l[i].Ids, 4, 99)[:len(l[i].Ids)]
	}
	want := all([]int{-1, 0, 1, 2, 3}, [][]int{nil, {1, 3, 2}, {3, 1, 2}, {2, 2, 5, 1}, {1, math.MaxInt, math.MinInt}})
	for _, a := range l {
		for _, b := range l {
			if agenda.Better(r, a, b) != agenda.Better(r, a, b) {
				t.Errorf("%v, %v", a, b)
			}
		}
	}
	if !same(l, want) || !reflect.DeepEqual(r, begun) {
		t.Errorf("%v, %v", l, r)
	}
	for _, k := range l {
		if n := len(k.Ids); !slices.Equal(k.Ids[n:n+2], []int{4, 99}) {
			t.Errorf("%v", k.Ids[:n+2])
		}
	}
}

// R3: rules that New was handed stay as they are, and are not kept.
func TestRulesAreNotKept(t *testing.T) {
	r := rules(0, 5, 2)
	r.Rules = append(r.Rules, api.Rule{Salience: 9})[:3]
	a := agenda.New(r)
	mustSet(t, a, token(0, 1), token(1, 1), token(2, 1))
	if !reflect.DeepEqual(r.Rules[:4], rules(0, 5, 2, 9).Rules) {
		t.Errorf("%v", r)
	}
	over := func() {
		for i := range r.Rules {
			r.Rules[i] = api.Rule{Salience: 50 - 30*i}
		}
	}
	over()
	mustTell(t, a, token(1, 1))
	mustSet(t, a, token(0, 2), token(0, 1), token(1, 1), token(2, 1))
	mustFire(t, a, token(0, 1), token(2, 1))
	mustTell(t, a, token(1, 1), token(2, 1), token(0, 1))
	if got := drained(t, a); !same(got, []api.Token{token(1, 1), token(0, 2)}) {
		t.Errorf("%v", got)
	}
	mustNotSet(t, a, token(3, 1))
	fresh := agenda.New(r)
	mustSet(t, fresh, token(0, 1), token(1, 1), token(2, 1))
	mustTell(t, fresh, token(0, 1))
}

// R3: what is told lies apart from what another call tells, from what is kept, and one from the other.
func TestToldLiesApart(t *testing.T) {
	a := made(t, 4, 4, 4)
	mustSet(t, a, several()...)
	next, _ := a.Next()
	again, _ := a.Next()
	over([]api.Token{next})
	mustTell(t, a, several()[0])
	if !sameToken(again, several()[0]) {
		t.Errorf("%v", again)
	}
	mustFire(t, a, again)
	over([]api.Token{again})
	mustTell(t, a, several()[1], several()[0])
	drained(t, a)
	told, other := a.Fired(), a.Fired()
	for i := range told {
		_ = append(told[i].Ids, 95, 96)
		over(told[i : i+1])
		if !same(told[i+1:], several()[i+1:]) {
			t.Errorf("%d: %v", i, told)
		}
	}
	_ = append(told[:2], token(7, 7))
	if !same(other, several()) {
		t.Errorf("%v", other)
	}
	mustBeSpent(t, a, several()...)
	mustSet(t, a, several()[2:]...)
	mustBeSpent(t, a, several()[2:]...)
	mustSet(t, a, several()...)
	mustTell(t, a, several()[0], several()[2:]...)
	if !same(other, several()) {
		t.Errorf("%v", other)
	}
}

// R3, R4: two agendas of the same rules know nothing of each other.
func TestAgendasLieApart(t *testing.T) {
	r := rules(0, 1)
	one, other := agenda.New(r), agenda.New(r)
	row := []api.Token{token(0, 1), token(1, 1), token(0, 2)}
	mustSet(t, one, row...)
	mustBeSpent(t, other)
	mustNotFire(t, other, row...)
	mustSet(t, other, row...)
	mustFire(t, one, token(1, 1), token(0, 1))
	mustTell(t, one, token(0, 2), token(1, 1), token(0, 1))
	mustTell(t, other, token(1, 1))
	mustFire(t, other, token(1, 1), token(0, 2))
	mustTell(t, other, token(0, 1), token(1, 1), token(0, 2))
	mustSet(t, other, token(0, 1))
	mustTell(t, one, token(0, 2), token(1, 1), token(0, 1))
	mustSet(t, one, row...)
	mustTell(t, one, token(0, 2), token(1, 1), token(0, 1))
	mustNotSet(t, one, token(2))
	mustTell(t, other, token(0, 1))
}

// mustDoNothing calls all there is.
func mustDoNothing(t *testing.T, a *agenda.Agenda) {
	t.Helper()
	for range 2 {
		for _, row := range [][]api.Token{nil, {}, {token(0)}, {token(0, 1), token(0, 1)}, {token(-1)}, several()} {
			if err := a.Set(row...); err != api.ErrNil {
				t.Errorf("Set(%v): %v", row, err)
			}
		}
		for _, k := range append(several(), api.Token{}, token(-1), token(math.MaxInt, math.MinInt)) {
			if err := a.Fire(k); err != api.ErrNil {
				t.Errorf("Fire(%v): %v", k, err)
			}
		}
		mustBeSpent(t, a)
		if fired := a.Fired(); fired != nil {
			t.Errorf("%v", fired)
		}
	}
}

// R5: a nil agenda, and one that nobody made, do nothing, and ErrNil stands ahead of all other errors.
func TestNil(t *testing.T) {
	var zero agenda.Agenda
	for _, a := range []*agenda.Agenda{nil, {}, new(agenda.Agenda), &zero, agenda.New(rules(make([]int, 65)...))} {
		mustDoNothing(t, a)
	}
}

// R6: rows without elements and nil ones are one.
func TestEmptyRows(t *testing.T) {
	r := rules(0)
	none, empty := api.Token{}, api.Token{Ids: []int{}}
	if agenda.Better(r, none, empty) || agenda.Better(r, empty, none) || !agenda.Better(r, token(0, -1), empty) || agenda.Better(r, empty, token(0, -1)) {
		t.Error("not the same")
	}
	for _, k := range []api.Token{none, empty} {
		for _, other := range []api.Token{none, empty} {
			a := made(t, 0)
			mustSet(t, a, []api.Token{}...)
			mustBeSpent(t, a)
			mustSet(t, a, k)
			mustTell(t, a, other)
			mustFire(t, a, other)
			mustNotFire(t, a, k)
			mustSet(t, a, other)
			mustBeSpent(t, a, k)
			mustNotSet(t, a, k, other)
			mustSet(t, a, []api.Token{}...)
			mustBeSpent(t, a)
			mustSet(t, a, k)
			mustTell(t, a, k)
		}
	}
}

// R4: agendas that do the same tell the same, many at once, each time.
func TestAtOnce(t *testing.T) {
	c := chanceOf(3)
	s := c.saliences()
	var sets [][]api.Token
	for range 30 {
		var row []api.Token
		for range 40 {
			if k := c.token(); !has(row, k) {
				row = append(row, k)
			}
		}
		sets = append(sets, row)
	}
	run := func() [][]api.Token {
		a := agenda.New(rules(s...))
		var all [][]api.Token
		for _, row := range sets {
			a.Set(row...)
			for range 7 {
				k, _ := a.Next()
				a.Fire(k)
				all = append(all, []api.Token{k}, a.Fired())
			}
		}
		return all
	}
	want := run()
	var group sync.WaitGroup
	for range 8 {
		group.Go(func() {
			for range 20 {
				if !reflect.DeepEqual(run(), want) {
					t.Error("not the same")
				}
			}
		})
	}
	group.Wait()
}
