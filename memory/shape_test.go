package memory_test

import (
	"math"
	"slices"
	"strings"
	"testing"

	"ropewalk/api"
	"ropewalk/memory"
)

// wrong are values that are not right, each by one fault alone.
func wrong() []api.Value {
	return []api.Value{
		{}, {Num: 1}, {Text: "a"}, {Kind: 3}, {Kind: 3, Num: 1}, {Kind: 3, Text: "a"}, {Kind: 255, Num: 1},
		{Kind: api.Int, Text: "a"}, {Kind: api.Int, Num: 1, Text: "a"}, {Kind: api.Int, Text: "\x00"},
		{Kind: api.Name}, {Kind: api.Name, Num: 1}, {Kind: api.Name, Num: 1, Text: "a"}, {Kind: api.Name, Num: math.MinInt64, Text: "a"},
		name(strings.Repeat("z", api.MaxName+1)), name(strings.Repeat("z", 1<<16)), name("A"), name("1"), name("_"), name("_a"), name("0a"), name("aB"), name("a b"), name(" a"), name("a "), name("a-"), name("'a"), name("a\x00"), name("é"), name("aé"), name("a\xff"),
	}
}

// P11.1, P11.2, P11.3: one value that is not right, in any place.
func TestWrongValues(t *testing.T) {
	right := []api.Value{number(1), name("a"), number(2), name("b"), number(3), name("c")}
	m, many := memory.New(), 0
	for count := range api.MaxFields + 1 {
		mustAdd(t, m, count+1, 0, right[:count]...)
		many++
	}
	for count := 1; count <= api.MaxFields; count++ {
		for at := range count {
			for _, v := range wrong() {
				row := slices.Clone(right[:count])
				row[at] = v
				mustRefuse(t, m, api.ErrArg, 0, 0, row...)
				mustNotFind(t, m, 0, row...)
				mustNotMake(t, 2, fact(1, 0, row...))
				mustNotMake(t, 4, fact(1, 0), fact(2, 0, row...), fact(3, 0, number(1)))
			}
		}
	}
	if m.Len() != many || m.Next() != many+1 {
		t.Errorf("%d, %d", m.Len(), m.Next())
	}
}

// P11.2, P11.3: values that are none behind those of a fact that is there make another one, which may not be.
func TestZeroValuesBehind(t *testing.T) {
	m := memory.New()
	mustAdd(t, m, 1, 0)
	mustAdd(t, m, 2, 0, number(1))
	for count := 1; count < 9; count++ {
		none := make([]api.Value, count)
		mustRefuse(t, m, api.ErrArg, 0, 0, none...)
		mustNotFind(t, m, 0, none...)
		mustRefuse(t, m, api.ErrArg, 0, 0, append(numbers(1), none...)...)
		mustNotFind(t, m, 0, append(numbers(1), none...)...)
	}
}

// P11.1: in any place of a full row, one fact that is not as it should be.
func TestWrongFacts(t *testing.T) {
	for _, at := range []int{0, 1, 128, api.MaxFacts - 1} {
		for i, turn := range []func(f *api.Fact, other api.Fact){
			func(f *api.Fact, other api.Fact) { f.Id-- },
			func(f *api.Fact, other api.Fact) { f.Id++ },
			func(f *api.Fact, other api.Fact) { f.Id = -f.Id },
			func(f *api.Fact, other api.Fact) { f.Id = other.Id },
			func(f *api.Fact, other api.Fact) { f.Id = math.MaxInt },
			func(f *api.Fact, other api.Fact) { f.Type = -1 },
			func(f *api.Fact, other api.Fact) { f.Type = api.MaxTypes },
			func(f *api.Fact, other api.Fact) { f.Args = numbers(1, 2, 3, 4, 5, 6, 7) },
			func(f *api.Fact, other api.Fact) { f.Args = []api.Value{{}} },
			func(f *api.Fact, other api.Fact) { f.Args = append(f.Args, api.Value{Kind: api.Name}) },
			func(f *api.Fact, other api.Fact) { f.Args = other.Args },
		} {
			facts := many(api.MaxFacts, 1)
			turn(&facts[at], facts[(at+50)%api.MaxFacts])
			if plainOf(api.MaxFacts+1, facts) {
				t.Errorf("%d, %d: it is right", at, i)
			}
			mustNotMake(t, api.MaxFacts+1, facts...)
		}
	}
}

// R6: rows without elements and nil ones are one.
func TestNoElements(t *testing.T) {
	for _, facts := range [][]api.Fact{nil, {}} {
		mustBe(t, mustMake(t, 7, facts...), 7)
	}
	m := memory.New()
	mustAdd(t, m, 1, 3, []api.Value{}...)
	mustRefuse(t, m, api.ErrThere, 1, 3)
	mustRefuse(t, m, api.ErrThere, 1, 3, []api.Value{}...)
	mustNotMake(t, 3, fact(1, 3), fact(2, 3, []api.Value{}...))
	mustHave(t, m, fact(1, 3, []api.Value{}...))
	mustHave(t, m, fact(1, 3))
}

// mustDoNothing calls all there is.
func mustDoNothing(t *testing.T, m *memory.Memory) {
	t.Helper()
	for range 2 {
		for _, args := range [][]api.Value{nil, {}, numbers(1), {name("a")}, {{}}, numbers(1, 2, 3, 4, 5, 6, 7)} {
			for _, kind := range []int{math.MinInt, -1, 0, 1, 31, 32, math.MaxInt} {
				if id, err := m.Add(kind, args...); id != 0 || err != api.ErrNil {
					t.Errorf("Add(%d, %v): %d, %v", kind, args, id, err)
				}
				mustNotFind(t, m, kind, args...)
			}
		}
		for _, id := range []int{math.MinInt, -1, 0, 1, 2, api.MaxId, api.MaxId + 1, math.MaxInt} {
			if err := m.Drop(id); err != api.ErrNil {
				t.Errorf("Drop(%d): %v", id, err)
			}
			mustLack(t, m, id)
		}
		if all := m.All(); len(all) > 0 || m.Next() != 0 || m.Len() != 0 {
			t.Errorf("%v, %d, %d", all, m.Next(), m.Len())
		}
	}
}

// R5: a nil memory, and one that nobody made, do nothing, and ErrNil stands ahead of all other errors; a memory that Of refused is nil.
func TestNil(t *testing.T) {
	var zero memory.Memory
	refused, _ := memory.Of(0, nil)
	for _, m := range []*memory.Memory{nil, {}, new(memory.Memory), &zero, refused} {
		mustDoNothing(t, m)
	}
	mustAdd(t, memory.New(), 1, 0)
}
