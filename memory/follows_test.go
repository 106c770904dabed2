package memory_test

import (
	"math/rand"
	"testing"

	"ropewalk/api"
	"ropewalk/memory"
)

// going makes memories go on by any right steps, and hands each of these to step: an Id to drop, or, where that is 0, a fact to add.
func going(t *testing.T, step func(b *both, f api.Fact, drop int)) {
	t.Helper()
	for i := range 100 {
		r := rand.New(rand.NewSource(int64(i)))
		c := chance{r, 0, 1 + r.Intn(3), 2 + r.Intn(4)}
		b, drops := begun(), 10+r.Intn(50)
		for range 400 {
			if c.Intn(100) < drops {
				step(&b, api.Fact{}, c.id(b))
			} else {
				step(&b, fact(0, c.kind(), c.row()...), 0)
			}
		}
	}
}

// P11.4: no number is given twice: each is greater than all that were given ahead, whatever was dropped.
func TestNoNumberTwice(t *testing.T) {
	given, again := map[*memory.Memory]int{}, 0
	going(t, func(b *both, f api.Fact, drop int) {
		if drop != 0 {
			b.mustDrop(t, drop)
			return
		}
		if id, err := b.Add(f.Type, f.Args...); err == api.OK {
			if id != given[b.Memory]+1 {
				t.Errorf("%d behind %d", id, given[b.Memory])
			}
			given[b.Memory] = id
			again++
		}
		b.add(f.Type, f.Args)
	})
	if again < 2000 {
		t.Error(again)
	}
}

// P11.4: a fact stays as it was added till it is dropped.
func TestStays(t *testing.T) {
	going(t, func(b *both, f api.Fact, drop int) {
		facts := b.All()
		err := api.Errno(0)
		if drop != 0 {
			err = b.mustDrop(t, drop)
		} else {
			err = b.mustAdd(t, f.Type, f.Args...)
		}
		for _, f := range facts {
			got, there := b.Get(f.Id)
			if f.Id == drop && err == api.OK {
				mustLack(t, b.Memory, f.Id)
			} else if !there || !sameFact(got, f) {
				t.Errorf("%s: %s, %v", brief(f), brief(got), there)
			}
		}
	})
}

// P11.4: what is dropped may be added again, each time under another number.
func TestAddedAgain(t *testing.T) {
	m := memory.New()
	mustAdd(t, m, 1, 5, name("stays"))
	for n := range 2000 {
		mustAdd(t, m, n+2, 5, name("comes"), number(7))
		mustRefuse(t, m, api.ErrThere, n+2, 5, name("comes"), number(7))
		mustDrop(t, m, n+2)
		mustNotDrop(t, m, n+2)
	}
	mustBe(t, m, 2002, fact(1, 5, name("stays")))
	full := mustMake(t, api.MaxFacts+1, many(api.MaxFacts, 1)...)
	for n := range 1000 {
		mustDrop(t, full, n+1)
		mustAdd(t, full, api.MaxFacts+1+n, 0, number(int64(n%api.MaxFacts)))
	}
}

// P11.1, P11.4, R4: a memory that Of makes of what All and Next tell goes on as that one does, and so does a memory that took the same steps.
func TestGoesOn(t *testing.T) {
	others, steps := map[*memory.Memory][]*memory.Memory{}, 0
	going(t, func(b *both, f api.Fact, drop int) {
		if l := others[b.Memory]; len(l) == 0 || steps%100 == 0 && len(l) < 5 {
			others[b.Memory] = append(l, mustMake(t, b.Next(), b.All()...))
		}
		steps++
		if drop != 0 {
			err := b.mustDrop(t, drop)
			for _, m := range others[b.Memory] {
				if other := m.Drop(drop); other != err {
					t.Errorf("Drop(%d): %v, not %v", drop, other, err)
				}
			}
			return
		}
		id, err := b.Add(f.Type, f.Args...)
		b.add(f.Type, f.Args)
		for _, m := range others[b.Memory] {
			if otherId, other := m.Add(f.Type, f.Args...); otherId != id || other != err {
				t.Errorf("Add(%d, %s): %d, %v, not %d, %v", f.Type, brief(f.Args), otherId, other, id, err)
			}
		}
	})
	for m, l := range others {
		for _, other := range l {
			mustBe(t, other, m.Next(), m.All()...)
		}
	}
}
