package memory_test

import (
	"slices"
	"strings"
	"sync"
	"testing"
	"unsafe"

	"ropewalk/api"
	"ropewalk/memory"
)

// spoilt is a name whose bytes are still to be written over, by the call that is told beside.
func spoilt(text string) (v api.Value, spoil func()) {
	b := []byte(text)
	return name(unsafe.String(&b[0], len(b))), func() { copy(b, strings.Repeat("!", len(b))) }
}

// R3: rows that Add and Of were handed are not kept.
func TestRowsAreNotKept(t *testing.T) {
	row := []api.Value{number(1), name("a"), number(3)}
	m := memory.New()
	mustAdd(t, m, 1, 2, row...)
	row[0], row[1], row[2] = number(8), api.Value{}, name("z")
	mustBe(t, m, 2, fact(1, 2, number(1), name("a"), number(3)))
	facts := []api.Fact{fact(1, 2, number(1)), fact(4, 3, name("a"), number(2)), fact(5, 3)}
	want := copied(facts)
	m = mustMake(t, 6, facts...)
	facts[0].Args[0], facts[1].Args[0], facts[1].Args[1] = number(9), number(9), number(9)
	facts[0], facts[1], facts[2] = api.Fact{}, fact(9, 9), fact(-1, -1)
	mustBe(t, m, 6, want...)
}

// R3: nor are their texts, nor what Find was handed.
func TestTextsAreNotKept(t *testing.T) {
	first, spoilFirst := spoilt("ab")
	second, spoilSecond := spoilt("cd")
	asked, spoilAsked := spoilt("ab")
	m := memory.New()
	mustAdd(t, m, 1, 0, first, number(1))
	made, err := memory.Of(9, []api.Fact{fact(3, 0, second), fact(4, 1, second, second)})
	if err != api.OK {
		t.Fatal(err)
	}
	if id, there := m.Find(0, asked, number(1)); id != 1 || !there {
		t.Error(id, there)
	}
	if id, err := m.Add(0, asked, number(1)); id != 1 || err != api.ErrThere {
		t.Error(id, err)
	}
	spoilFirst()
	spoilSecond()
	spoilAsked()
	mustBe(t, m, 2, fact(1, 0, name("ab"), number(1)))
	mustBe(t, made, 9, fact(3, 0, name("cd")), fact(4, 1, name("cd"), name("cd")))
}

// told are all facts that m tells, by All and Get.
func told(m *memory.Memory) []api.Fact {
	l := m.All()
	for _, f := range m.All() {
		got, _ := m.Get(f.Id)
		l = append(l, got)
	}
	return l
}

// R3: what is told lies apart from the memory, from what another call tells, and one row from another one: it may be written over.
func TestToldLiesApart(t *testing.T) {
	want := []api.Fact{fact(1, 0, number(1), name("a")), fact(2, 0), fact(5, 3, name("b"), name("b"))}
	m := mustMake(t, 6, want...)
	for range 3 {
		first, second := told(m), told(m)
		for i := range first {
			clear(first[i].Args)
			_ = append(first[i].Args, number(9), number(9), number(9), number(9), number(9))
			if !sameFact(second[i], want[i%3]) {
				t.Errorf("%s, not %s", brief(second[i]), brief(want[i%3]))
			}
		}
		clear(first)
		mustBe(t, m, 6, want...)
	}
	kept := told(m)
	mustDrop(t, m, 1)
	mustDrop(t, m, 5)
	mustAdd(t, m, 6, 3, name("c"))
	if !sameFacts(kept, slices.Concat(want, want)) {
		t.Errorf("%s", brief(kept))
	}
}

// R3: no text that is told is one that was handed in, or that another call told, or that stands elsewhere in the same answer.
func TestTextsLieApart(t *testing.T) {
	v := name(strings.Clone("ab"))
	m := memory.New()
	mustAdd(t, m, 1, 0, v, v)
	made := mustMake(t, 2, fact(1, 0, v, v))
	values := []api.Value{v}
	for range 3 {
		for _, f := range append(told(m), told(made)...) {
			values = append(values, f.Args...)
		}
	}
	places := map[*byte]bool{}
	for _, v := range values {
		places[unsafe.StringData(v.Text)] = true
	}
	if len(places) != 1+3*2*4 || len(values) != len(places) {
		t.Errorf("%d texts at %d places", len(values), len(places))
	}
}

// R3: what stands behind rows that are handed in stays as it is, and plays no part.
func TestBehindRows(t *testing.T) {
	row := numbers(1, 2, 3, 4)
	facts := []api.Fact{fact(1, 0, row[:2]...), fact(2, 0, row[:3]...), fact(3, 0, row...)}
	m := mustMake(t, 2, facts[:1]...)
	mustAdd(t, m, 2, 0, row[:1]...)
	mustAdd(t, m, 3, 0, row[:3]...)
	mustRefuse(t, m, api.ErrThere, 1, 0, row[:2]...)
	mustNotFind(t, m, 0, row...)
	mustNotFind(t, m, 0, row[:0]...)
	mustBe(t, m, 4, fact(1, 0, numbers(1, 2)...), fact(2, 0, numbers(1)...), fact(3, 0, numbers(1, 2, 3)...))
	if !slices.Equal(row, numbers(1, 2, 3, 4)) || !sameFacts(facts, []api.Fact{fact(1, 0, numbers(1, 2)...), fact(2, 0, numbers(1, 2, 3)...), fact(3, 0, numbers(1, 2, 3, 4)...)}) {
		t.Errorf("%v, %v", row, facts)
	}
}

// R3: facts of one row may have one row of values.
func TestOneRow(t *testing.T) {
	row := numbers(1, 2, 3)
	m := mustMake(t, 9, fact(1, 0, row...), fact(2, 1, row...), fact(3, 2, row[:2]...), fact(4, 3, row[1:]...))
	mustNotMake(t, 9, fact(1, 0, row...), fact(2, 0, row...))
	clear(row)
	mustBe(t, m, 9, fact(1, 0, numbers(1, 2, 3)...), fact(2, 1, numbers(1, 2, 3)...), fact(3, 2, numbers(1, 2)...), fact(4, 3, numbers(2, 3)...))
}

// R4: what is asked in between changes nothing.
func TestAskingChangesNothing(t *testing.T) {
	m := mustMake(t, api.MaxFacts+1, many(api.MaxFacts, 1)...)
	for range 20 {
		mustNotFind(t, m, 0, number(-1))
		mustNotFind(t, m, 32)
		mustLack(t, m, 0)
		mustNotDrop(t, m, api.MaxFacts+1)
		mustRefuse(t, m, api.ErrFull, 0, 5)
	}
	mustBe(t, m, api.MaxFacts+1, many(api.MaxFacts, 1)...)
}

// R4: many that ask at once are told alike.
func TestAtOnce(t *testing.T) {
	facts := unlike()
	m := mustMake(t, len(facts)+1, facts...)
	var all sync.WaitGroup
	for range 8 {
		all.Go(func() { mustBe(t, m, len(facts)+1, facts...) })
	}
	all.Wait()
}

// R1: rows that are very great, of facts and of values, and texts that are very long.
func TestGreat(t *testing.T) {
	const great = 1 << 18
	mustNotMake(t, api.MaxId+1, many(great, 1)...)
	mustNotMake(t, api.MaxId+1, make([]api.Fact, great)...)
	m, long := memory.New(), name(strings.Repeat("z", 1<<24))
	for _, row := range [][]api.Value{make([]api.Value, great), slices.Repeat(numbers(1), great), {long}, {number(1), long}} {
		mustRefuse(t, m, api.ErrArg, 0, 0, row...)
		mustNotFind(t, m, 0, row...)
		if made, err := memory.Of(9, []api.Fact{fact(1, 0, row...)}); made != nil || err != api.ErrShape {
			t.Errorf("%s: %v", brief(len(row)), err)
		}
	}
}
