package agenda_test

import (
	"math"
	"slices"
	"testing"

	"ropewalk/api"
)

// P14.2: a match of a rule that is none, wherever it stands, is refused.
func TestSetOfNoRule(t *testing.T) {
	a := made(t, 0, 3)
	mustSet(t, a, token(0, 1), token(1, 2), token(1, 3))
	mustFire(t, a, token(1, 3))
	for _, rule := range []int{math.MinInt, -1 << 32, -2, -1, 2, 3, 63, 64, 255, 256, 1 << 32, 1<<32 + 1, math.MaxInt} {
		for _, ids := range [][]int{nil, {1}, {2}} {
			wrong := token(rule, ids...)
			mustNotSet(t, a, wrong)
			mustNotSet(t, a, wrong, token(0, 8), token(1, 9))
			mustNotSet(t, a, token(0, 8), wrong, token(1, 9))
			mustNotSet(t, a, token(0, 8), token(1, 9), wrong)
			mustNotSet(t, a, wrong, wrong)
			mustNotFire(t, a, wrong)
		}
	}
	mustTell(t, a, token(1, 2), token(1, 3))
	mustNotFire(t, a, token(0, 8), token(1, 9))
	if l := drained(t, a); !same(l, []api.Token{token(1, 2), token(0, 1)}) {
		t.Errorf("%v", l)
	}
}

// P14.2: of rules of which there is none all matches are refused.
func TestSetOfNoRules(t *testing.T) {
	a := made(t)
	for _, rule := range []int{-1, 0, 1} {
		mustNotSet(t, a, token(rule))
		mustNotFire(t, a, token(rule))
	}
	mustSet(t, a)
	mustBeSpent(t, a)
}

// P14.2: two that are the same, wherever they stand, are refused; such as differ in one thing are not.
func TestSetOfTwice(t *testing.T) {
	a := made(t, 0, 0, 4)
	mustSet(t, a, token(0, 7), token(2, 7), token(2, 8))
	mustFire(t, a, token(2, 7))
	several := []api.Token{token(0), token(1), token(0, 1), token(0, 1, 1), token(0, 1, 2), token(0, 2, 1), token(1, 1, 2), token(1, 2, 1), token(2, 1, 2), token(0, -1), token(0, 12), token(2, math.MinInt, math.MaxInt), token(0, 7), token(2, 7)}
	for i, k := range several {
		mustNotSet(t, a, k, k)
		for j := range several {
			mustNotSet(t, a, slices.Insert(slices.Clone(several), j, several[i])...)
		}
		mustNotSet(t, a, append(slices.Clone(several), k)...)
	}
	mustNotSet(t, a, api.Token{Ids: nil}, api.Token{Ids: []int{}})
	mustTell(t, a, token(2, 8), token(2, 7))
	mustNotFire(t, a, token(0), token(0, 1), token(0, 2, 1))
	mustSet(t, a, several...)
	mustHaveFired(t, a, token(2, 7))
	if l := drained(t, a); len(l) != len(several)-1 {
		t.Errorf("%v", l)
	}
}

// P14.2: Ids that read alike when written one behind the other are not the same.
func TestSetOfAlike(t *testing.T) {
	row := []api.Token{token(0, 1, 12), token(0, 11, 2), token(0, 112), token(1, 12), token(11, 2), token(1, 1, 2), token(10, 1), token(1, 0, 1), token(0, 1, -1), token(0, 1-1), token(0, 256), token(0, 0, 256), token(0, 1<<32), token(0, 0, 1)}
	for i := range row {
		a := made(t, make([]int, 12)...)
		mustSet(t, a, row...)
		mustFire(t, a, row[i])
		mustSet(t, a, row...)
		mustHaveFired(t, a, row[i])
		if l := drained(t, a); len(l) != len(row)-1 {
			t.Errorf("%v", l)
		}
	}
}

// P14.2: what was fired and holds still is fired still, as often as it is set; what did not hold in between is not.
func TestFiredAndHolds(t *testing.T) {
	a := made(t, 0, 2)
	one, two, three := token(0, 1), token(0, 2), token(1, 1, 2)
	mustSet(t, a, one, two, three)
	mustFire(t, a, three, two)
	for _, row := range [][]api.Token{{one, two, three}, {three, two, one}, {two, three, one}} {
		mustSet(t, a, row...)
		mustTell(t, a, one, three, two)
	}
	mustSet(t, a, two, one)
	mustTell(t, a, one, two)
	mustSet(t, a, one, two, three)
	mustTell(t, a, three, two)
	mustSet(t, a)
	mustBeSpent(t, a)
	mustSet(t, a, one, two, three)
	mustTell(t, a, three)
	mustFire(t, a, three, two, one)
	mustBeSpent(t, a, three, two, one)
	mustSet(t, a, two)
	mustBeSpent(t, a, two)
	mustSet(t, a, one, two)
	mustTell(t, a, one, two)
}

// P14.2: only the very match that was fired is fired still: not one of the same Ids in another order, or of another rule.
func TestFiredIsNoOther(t *testing.T) {
	a := made(t, 0, 0)
	mustSet(t, a, token(0, 1, 2))
	mustFire(t, a, token(0, 1, 2))
	mustSet(t, a, token(0, 2, 1))
	mustTell(t, a, token(0, 2, 1))
	mustSet(t, a, token(0, 1, 2), token(0, 2, 1), token(1, 1, 2))
	mustTell(t, a, token(0, 1, 2))
	mustFire(t, a, token(0, 1, 2))
	mustTell(t, a, token(0, 2, 1), token(0, 1, 2))
	mustSet(t, a, token(1, 1, 2), token(0, 1, 2), token(0, 1), token(0, 1, 2, 2))
	mustTell(t, a, token(0, 1, 2, 2), token(0, 1, 2))
}

// P14.2: a refused Set behind one that lets fired ones go, and ahead of one that takes them again, changes nothing.
func TestRefusedSetBetween(t *testing.T) {
	a := made(t, 0)
	one, two := token(0, 1), token(0, 2)
	mustSet(t, a, one, two)
	mustFire(t, a, two)
	mustNotSet(t, a, one, one)
	mustNotSet(t, a, one, token(1))
	mustNotSet(t, a, two, token(-1))
	mustSet(t, a, one, two)
	mustTell(t, a, one, two)
	mustSet(t, a, one)
	mustNotSet(t, a, one, two, two)
	mustSet(t, a, one, two)
	mustTell(t, a, two)
}

// P14.3: what does not hold, was fired, or was never there, is not fired.
func TestFireOfNone(t *testing.T) {
	a := made(t, 1, 0, 1)
	never := []api.Token{token(0), token(0, 1), token(1), token(2, 1, 2), token(0, 5, 4, 4), token(-1), token(3), {}}
	mustNotFire(t, a, never...)
	mustSet(t, a)
	mustNotFire(t, a, never...)
	mustSet(t, a, token(0, 4, 5), token(1, 4, 5), token(2, 4), token(2, 5))
	mustNotFire(t, a, never...)
	mustNotFire(t, a, token(0, 5, 4), token(0, 4), token(0, 5), token(0, 4, 5, 5), token(0, 4, 5, 0), token(2, 4, 5), token(2, 6), token(2, 3), token(1, 5, 4))
	mustFire(t, a, token(2, 4))
	mustNotFire(t, a, token(2, 4))
	mustSet(t, a, token(2, 4), token(0, 4, 5), token(2, 5))
	mustNotFire(t, a, token(2, 4), token(1, 4, 5))
	mustSet(t, a, token(0, 4, 5))
	mustNotFire(t, a, token(2, 4), token(2, 5))
	mustSet(t, a, token(2, 4), token(2, 5))
	mustNotFire(t, a, token(0, 4, 5))
	mustFire(t, a, token(2, 4), token(2, 5))
	mustNotFire(t, a, token(2, 4), token(2, 5))
	mustBeSpent(t, a, token(2, 5), token(2, 4))
}

// P14.3: any one that holds may be fired, the last one, too; Fired tells in the order in which they stand, not that of firing.
func TestFireOfAny(t *testing.T) {
	row := []api.Token{token(1, 1), token(0, 3), token(0, 2, 2), token(2, 2), token(0, 1, -1), token(2)}
	orders := [][]int{{0, 1, 2, 3, 4, 5}, {5, 4, 3, 2, 1, 0}, {2, 4, 0, 5, 1, 3}, {3, 0, 5, 1, 4, 2}, {1, 0, 3, 2, 5, 4}}
	for _, set := range orders {
		for _, fire := range orders {
			a := made(t, 0, 7, 0)
			var mixed []api.Token
			for _, i := range set {
				mixed = append(mixed, row[i])
			}
			mustSet(t, a, mixed...)
			waits := slices.Clone(row)
			var fired []api.Token
			for n, i := range fire {
				mustTell(t, a, waits[0], fired...)
				mustFire(t, a, row[i])
				waits = slices.DeleteFunc(waits, func(k api.Token) bool { return sameToken(k, row[i]) })
				fired = slices.DeleteFunc(slices.Clone(row), func(k api.Token) bool {
					return slices.ContainsFunc(waits, func(w api.Token) bool { return sameToken(k, w) })
				})
				if len(fired) != n+1 {
					t.Errorf("%v", fired)
				}
			}
			mustBeSpent(t, a, row...)
			mustNotFire(t, a, row...)
		}
	}
}

// P14.3: each one, fired ahead of all others, leaves those in their order.
func TestFireOfOne(t *testing.T) {
	var row []api.Token
	for n := range 40 {
		row = append(row, token(n%3, 99-n))
	}
	for i := range row {
		a := made(t, 1, 1, 1)
		mustSet(t, a, row...)
		mustFire(t, a, row[i])
		mustNotFire(t, a, row[i])
		mustHaveFired(t, a, row[i])
		if got := drained(t, a); !same(got, slices.Delete(slices.Clone(row), i, i+1)) {
			t.Errorf("%d: %v", i, got)
		}
		mustBeSpent(t, a, row...)
	}
}

// P14.3: as many matches as there may be, of as many Ids as a rule has conditions.
func TestMost(t *testing.T) {
	var row []api.Token
	for n := range api.MaxTokens {
		row = append(row, token(n%api.MaxRules, 7, n&7, n>>3&7, n>>6&7, n>>9, 0, 3, 1))
	}
	l := make([]int, api.MaxRules)
	for i := range l {
		l[i] = i * 11 % 5
	}
	a := made(t, l...)
	mustSet(t, a, row...)
	order := drained(t, a)
	mustBeSpent(t, a, order...)
	for i := 1; i < len(order); i++ {
		if !ahead(l, order[i-1], order[i]) {
			t.Fatalf("%v, %v", order[i-1], order[i])
		}
	}
	mustNotSet(t, a, append(slices.Clone(row), row[77])...)
	mustSet(t, a, row[1:]...)
	mustSet(t, a, row...)
	mustTell(t, a, row[0], slices.DeleteFunc(order, func(k api.Token) bool { return sameToken(k, row[0]) })...)
}

// R1: far more matches than may be, and far more Ids of one.
func TestGreat(t *testing.T) {
	a := made(t, 0)
	var row []api.Token
	for n := range 1 << 16 {
		row = append(row, token(0, n*7919%(1<<16)))
	}
	mustSet(t, a, row...)
	for i, k := range drained(t, a) {
		if k.Ids[0] != 1<<16-1-i {
			t.Fatalf("%d: %v", i, k)
		}
	}
	mustSet(t, a)
	long := slices.Repeat([]int{3, 1, 2}, 1<<16)
	longer := append(slices.Clone(long), 1)
	mustSet(t, a, token(0, long...), token(0, longer...), token(0, 3))
	mustNotSet(t, a, token(0, longer...), token(0, 3), token(0, longer...))
	mustTell(t, a, token(0, longer...))
	mustFire(t, a, token(0, longer...))
	mustNotFire(t, a, token(0, longer...))
	mustTell(t, a, token(0, long...), token(0, longer...))
}
