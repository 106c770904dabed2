package memory_test

import (
	"fmt"
	"math"
	"slices"
	"strings"
	"testing"

	"ropewalk/api"
	"ropewalk/memory"
)

func number(n int64) api.Value { return api.Value{Kind: api.Int, Num: n} }

func name(text string) api.Value { return api.Value{Kind: api.Name, Text: text} }

func numbers(l ...int64) []api.Value {
	var values []api.Value
	for _, n := range l {
		values = append(values, number(n))
	}
	return values
}

func fact(id, kind int, args ...api.Value) api.Fact { return api.Fact{Id: id, Type: kind, Args: args} }

// many are facts of type 0, each of one number, with Ids from first on.
func many(count, first int) []api.Fact {
	var l []api.Fact
	for i := range count {
		l = append(l, fact(first+i, 0, number(int64(i))))
	}
	return l
}

func sameFact(a, b api.Fact) bool {
	return a.Id == b.Id && a.Type == b.Type && slices.Equal(a.Args, b.Args)
}

func sameFacts(a, b []api.Fact) bool { return slices.EqualFunc(a, b, sameFact) }

func isZero(f api.Fact) bool { return f.Id == 0 && f.Type == 0 && f.Args == nil }

// copied is l in rows of its own.
func copied(l []api.Fact) []api.Fact {
	l = slices.Clone(l)
	for i, f := range l {
		l[i].Args = slices.Clone(f.Args)
	}
	return l
}

// brief is v as a text for a test's report, cut where it is long.
func brief(v any) string { return fmt.Sprintf("%.1000s", fmt.Sprintf("%+v", v)) }

// mustBe tells whether m is the memory of just these facts, by each call that asks, twice.
func mustBe(t *testing.T, m *memory.Memory, next int, facts ...api.Fact) {
	t.Helper()
	for range 2 {
		if all := m.All(); !sameFacts(all, facts) || m.Next() != next || m.Len() != len(facts) {
			t.Errorf("%d, %s: %d, %d, %s", next, brief(facts), m.Next(), m.Len(), brief(all))
		}
		for i, f := range facts {
			mustHave(t, m, f)
			if i == 0 || facts[i-1].Id < f.Id-1 {
				mustLack(t, m, f.Id-1)
			}
		}
		for _, id := range []int{next, next + 1, 0, -1, math.MaxInt, math.MinInt} {
			mustLack(t, m, id)
		}
	}
}

func mustHave(t *testing.T, m *memory.Memory, f api.Fact) {
	t.Helper()
	if got, there := m.Get(f.Id); !there || !sameFact(got, f) {
		t.Errorf("%s: %s, %v", brief(f), brief(got), there)
	}
	if id, there := m.Find(f.Type, f.Args...); !there || id != f.Id {
		t.Errorf("%s: %d, %v", brief(f), id, there)
	}
}

func mustLack(t *testing.T, m *memory.Memory, id int) {
	t.Helper()
	if got, there := m.Get(id); there || !isZero(got) {
		t.Errorf("%d: %s, %v", id, brief(got), there)
	}
}

func mustNotFind(t *testing.T, m *memory.Memory, kind int, args ...api.Value) {
	t.Helper()
	if id, there := m.Find(kind, args...); there || id != 0 {
		t.Errorf("%d, %s: %d, %v", kind, brief(args), id, there)
	}
}

// mustAdd adds a fact that is not there yet.
func mustAdd(t *testing.T, m *memory.Memory, want, kind int, args ...api.Value) {
	t.Helper()
	mustNotFind(t, m, kind, args...)
	if id, err := m.Add(kind, args...); id != want || err != api.OK {
		t.Errorf("%d, %s: %d, %v, not %d", kind, brief(args), id, err, want)
	}
	mustHave(t, m, fact(want, kind, args...))
}

// mustRefuse tells whether an addition is refused, with that Id beside, and changes nothing.
func mustRefuse(t *testing.T, m *memory.Memory, want api.Errno, wantId, kind int, args ...api.Value) {
	t.Helper()
	next, facts := m.Next(), m.All()
	if id, err := m.Add(kind, args...); id != wantId || err != want {
		t.Errorf("%d, %s: %d, %v, not %d, %v", kind, brief(args), id, err, wantId, want)
	}
	mustBe(t, m, next, facts...)
}

func mustDrop(t *testing.T, m *memory.Memory, id int) {
	t.Helper()
	f, _ := m.Get(id)
	if err := m.Drop(id); err != api.OK {
		t.Errorf("%d: %v", id, err)
	}
	mustLack(t, m, id)
	mustNotFind(t, m, f.Type, f.Args...)
}

// mustNotDrop tells whether there is none of that Id, and the call changes nothing.
func mustNotDrop(t *testing.T, m *memory.Memory, id int) {
	t.Helper()
	next, facts := m.Next(), m.All()
	if err := m.Drop(id); err != api.ErrNone {
		t.Errorf("%d: %v", id, err)
	}
	mustBe(t, m, next, facts...)
}

// mustMake is the memory of these facts, which stay as they are.
func mustMake(t *testing.T, next int, facts ...api.Fact) *memory.Memory {
	t.Helper()
	ahead := copied(facts)
	m, err := memory.Of(next, facts)
	if m == nil || err != api.OK {
		t.Fatalf("%d, %s: %v, %v", next, brief(facts), m, err)
	}
	mustBe(t, m, next, ahead...)
	if !sameFacts(facts, ahead) {
		t.Errorf("%s was changed to %s", brief(ahead), brief(facts))
	}
	return m
}

func mustNotMake(t *testing.T, next int, facts ...api.Fact) {
	t.Helper()
	ahead := copied(facts)
	if m, err := memory.Of(next, facts); m != nil || err != api.ErrShape {
		t.Errorf("%d, %s: %v, %v", next, brief(facts), m, err)
	}
	if !sameFacts(facts, ahead) {
		t.Errorf("%s was changed to %s", brief(ahead), brief(facts))
	}
}

// P11.1, P11.2, P11.3: the chapter's example.
func TestExample(t *testing.T) {
	m := memory.New()
	mustAdd(t, m, 1, 0, number(5))
	mustAdd(t, m, 2, 0, name("a"))
	mustRefuse(t, m, api.ErrThere, 1, 0, number(5))
	mustDrop(t, m, 1)
	mustAdd(t, m, 3, 0, number(5))
	mustBe(t, m, 4, fact(2, 0, name("a")), fact(3, 0, number(5)))
	mustRefuse(t, m, api.ErrArg, 0, 32)
	mustNotDrop(t, m, 1)
}

// P11.1: a new memory has no facts; the next one gets 1.
func TestNew(t *testing.T) {
	mustBe(t, memory.New(), 1)
	mustNotFind(t, memory.New(), 0)
	mustNotDrop(t, memory.New(), 1)
	mustAdd(t, memory.New(), 1, 0)
}

// P11.1: memories are apart from each other.
func TestTwo(t *testing.T) {
	first, second := memory.New(), memory.New()
	mustAdd(t, first, 1, 3, number(1))
	mustAdd(t, first, 2, 3, number(2))
	mustBe(t, second, 1)
	mustAdd(t, second, 1, 3, number(2))
	mustDrop(t, first, 1)
	mustBe(t, first, 3, fact(2, 3, number(2)))
	mustBe(t, second, 2, fact(1, 3, number(2)))
}

// P11.1: the next number of Of is from 1 to one more than the greatest.
func TestNextNumbers(t *testing.T) {
	for _, next := range []int{1, 2, 3, 1 << 16, 1<<31 - 1, 1 << 31, 1 << 32, api.MaxId - 1, api.MaxId, api.MaxId + 1} {
		mustMake(t, next)
		if next > 1 {
			mustMake(t, next, fact(next-1, 2, number(7)))
			mustMake(t, next, fact(1, 2, number(7)))
		}
		mustNotMake(t, next, fact(next, 2, number(7)))
		mustNotMake(t, next, fact(next+1, 2, number(7)))
	}
	for _, next := range []int{math.MinInt, -api.MaxId, -1, 0, api.MaxId + 2, api.MaxId + 3, 2 * api.MaxId, math.MaxInt} {
		mustNotMake(t, next)
		for _, id := range []int{next - 1, next, next + 1, 0, 1, -1, api.MaxId, api.MaxId + 1, math.MinInt, math.MaxInt} {
			mustNotMake(t, next, fact(id, 2, number(7)))
		}
	}
}

// P11.1: the Ids of Of rise, from 1 on, and stand below the next one.
func TestIds(t *testing.T) {
	one := func(ids ...int) []api.Fact {
		var l []api.Fact
		for i, id := range ids {
			l = append(l, fact(id, 1, number(int64(i))))
		}
		return l
	}
	for _, ids := range [][]int{{1}, {9}, {1, 2}, {1, 9}, {8, 9}, {2, 5, 7}, {1, 2, 3, 4, 5, 6, 7, 8, 9}} {
		mustMake(t, 10, one(ids...)...)
	}
	for _, ids := range [][]int{{0}, {-1}, {10}, {11}, {math.MinInt}, {math.MaxInt}, {0, 1}, {-1, 1}, {1, 1}, {9, 9}, {2, 1}, {9, 1}, {1, 10}, {9, 10}, {10, 9}, {1, 3, 2}, {1, 2, 2}, {2, 2, 3}, {1, 5, 1}, {3, 1, 2}, {1, 2, 0}, {1, 2, 11}, {math.MinInt, 1, 2}, {1, 2, math.MaxInt}} {
		mustNotMake(t, 10, one(ids...)...)
	}
	mustMake(t, api.MaxId+1, one(1, api.MaxId-1, api.MaxId)...)
	mustNotMake(t, api.MaxId+1, one(1, api.MaxId, api.MaxId+1)...)
	mustNotMake(t, api.MaxId+1, one(1, api.MaxId, api.MaxId)...)
	mustNotMake(t, api.MaxId, one(1, api.MaxId-1, api.MaxId)...)
}

// P11.2: at most MaxFacts are there, by Add; one that is there is told as such also then, and what may not be.
func TestFull(t *testing.T) {
	m := memory.New()
	for i := range api.MaxFacts {
		mustAdd(t, m, i+1, 0, number(int64(i)))
	}
	full := many(api.MaxFacts, 1)
	mustBe(t, m, api.MaxFacts+1, full...)
	mustRefuse(t, m, api.ErrFull, 0, 0, number(api.MaxFacts))
	mustRefuse(t, m, api.ErrFull, 0, 1, number(0))
	mustRefuse(t, m, api.ErrFull, 0, 31)
	for i := range api.MaxFacts {
		mustRefuse(t, m, api.ErrThere, i+1, 0, number(int64(i)))
	}
	mustRefuse(t, m, api.ErrArg, 0, 32, number(0))
	mustRefuse(t, m, api.ErrArg, 0, 0, api.Value{})
	mustDrop(t, m, 100)
	mustAdd(t, m, api.MaxFacts+1, 1, number(0))
	mustRefuse(t, m, api.ErrFull, 0, 0, number(99))
	mustBe(t, m, api.MaxFacts+2, append(slices.Delete(full, 99, 100), fact(api.MaxFacts+1, 1, number(0)))...)
}

// P11.1: at most MaxFacts are there, by Of.
func TestFullByOf(t *testing.T) {
	mustMake(t, api.MaxFacts, many(api.MaxFacts-1, 1)...)
	for _, first := range []int{1, 2, 1000, api.MaxId - api.MaxFacts + 1} {
		m := mustMake(t, first+api.MaxFacts, many(api.MaxFacts, first)...)
		mustRefuse(t, m, api.ErrFull, 0, 0, number(-1))
		mustRefuse(t, m, api.ErrThere, first, 0, number(0))
		mustRefuse(t, m, api.ErrThere, first+api.MaxFacts-1, 0, number(api.MaxFacts-1))
	}
	for _, more := range []int{1, 2, api.MaxFacts, 1 << 16} {
		mustNotMake(t, api.MaxId, many(api.MaxFacts+more, 1)...)
	}
}

// P11.2: numbers go up to MaxId; what is there is told as such also behind that, and what is dropped gives no number back.
func TestLastNumber(t *testing.T) {
	m := mustMake(t, api.MaxId-1, fact(1, 4))
	mustAdd(t, m, api.MaxId-1, 4, number(1))
	mustAdd(t, m, api.MaxId, 4, number(2))
	mustRefuse(t, m, api.ErrFull, 0, 4, number(3))
	mustRefuse(t, m, api.ErrThere, 1, 4)
	mustRefuse(t, m, api.ErrThere, api.MaxId, 4, number(2))
	mustRefuse(t, m, api.ErrArg, 0, -1)
	mustDrop(t, m, api.MaxId)
	mustRefuse(t, m, api.ErrFull, 0, 4, number(2))
	mustDrop(t, m, 1)
	mustDrop(t, m, api.MaxId-1)
	mustRefuse(t, m, api.ErrFull, 0, 4)
	mustBe(t, m, api.MaxId+1)
	m = mustMake(t, api.MaxId+1)
	mustRefuse(t, m, api.ErrFull, 0, 0)
	mustBe(t, m, api.MaxId+1)
}

// P11.2: facts of types 0 to 31, of none to 6 values, and of no others.
func TestMayBe(t *testing.T) {
	m, next := memory.New(), 1
	var facts []api.Fact
	for _, kind := range []int{0, 1, 7, 8, 15, 16, 30, 31} {
		for count := range api.MaxFields + 1 {
			row := slices.Repeat(numbers(4), count)
			mustMake(t, 2, fact(1, kind, row...))
			mustAdd(t, m, next, kind, row...)
			facts, next = append(facts, fact(next, kind, row...)), next+1
		}
		for _, count := range []int{7, 8, 64, 1 << 20} {
			row := slices.Repeat(numbers(4), count)
			mustNotMake(t, 2, fact(1, kind, row...))
			mustRefuse(t, m, api.ErrArg, 0, kind, row...)
			mustNotFind(t, m, kind, row...)
		}
	}
	mustBe(t, m, next, facts...)
	for _, kind := range []int{math.MinInt, -1 << 32, -256, -32, -31, -1, 32, 33, 63, 64, 255, 256, 1 << 32, 1<<32 + 1, math.MaxInt} {
		for count := range api.MaxFields + 2 {
			row := slices.Repeat(numbers(4), count)
			mustNotMake(t, 2, fact(1, kind, row...))
			mustRefuse(t, m, api.ErrArg, 0, kind, row...)
			mustNotFind(t, m, kind, row...)
		}
	}
}

// unlike are facts of which no two say the same: but for a type, a value, where it stands, or how many there are, they do.
func unlike() []api.Fact {
	longest := strings.Repeat("z", api.MaxName)
	rows := [][]api.Value{
		nil, numbers(0), numbers(1), numbers(-1), numbers(math.MaxInt64), numbers(math.MinInt64),
		{name("a")}, {name("b")}, {name("ab")}, {name(longest)}, {name(longest[1:])}, {name(longest[1:] + "y")},
		numbers(0, 0), numbers(0, 1), numbers(1, 0), {name("a"), name("b")}, {name("b"), name("a")}, {name("a"), number(0)}, {number(0), name("a")},
		{name("ab"), name("a")}, {name("a"), name("ba")}, numbers(0, 0, 0), numbers(0, 0, 0, 0), numbers(0, 0, 0, 0, 0), numbers(0, 0, 0, 0, 0, 0),
	}
	for at := range api.MaxFields {
		row := numbers(0, 0, 0, 0, 0, 0)
		row[at] = number(1)
		other := slices.Clone(row)
		other[at] = name("a")
		rows = append(rows, row, other)
	}
	var l []api.Fact
	for _, kind := range []int{0, 1, 31} {
		for _, row := range rows {
			l = append(l, fact(len(l)+1, kind, row...))
		}
	}
	return l
}

// P11.1, P11.2, P11.3: facts say the same, if they are of one type, and have the same values: all of these are beside each other, and are found one by one.
func TestSayTheSame(t *testing.T) {
	facts := unlike()
	m, made := memory.New(), mustMake(t, len(facts)+1, facts...)
	for i, f := range facts {
		mustAdd(t, m, f.Id, f.Type, f.Args...)
		for _, ahead := range facts[:i] {
			mustMake(t, api.MaxId, ahead, f)
		}
	}
	mustBe(t, m, len(facts)+1, facts...)
	for _, f := range facts {
		mustRefuse(t, m, api.ErrThere, f.Id, f.Type, f.Args...)
		mustRefuse(t, made, api.ErrThere, f.Id, f.Type, f.Args...)
		mustDrop(t, made, f.Id)
		mustNotFind(t, made, f.Type, f.Args...)
	}
	mustBe(t, made, len(facts)+1)
}

// P11.1: Of takes no two that say the same, wherever they stand.
func TestSayTheSameByOf(t *testing.T) {
	facts := unlike()
	for i, f := range facts {
		f.Id = len(facts) + 1
		mustNotMake(t, len(facts)+2, append(slices.Clone(facts), f)...)
		mustNotMake(t, len(facts)+2, facts[i], f)
	}
	full := many(api.MaxFacts, 1)
	for _, pair := range [][2]int{{0, 1}, {0, 255}, {254, 255}, {100, 200}} {
		twice := slices.Clone(full)
		twice[pair[1]].Args = slices.Clone(twice[pair[0]].Args)
		mustNotMake(t, api.MaxFacts+1, twice...)
	}
}

// P11.2, P11.3: facts are dropped, asked for and found wherever they stand among others.
func TestDrop(t *testing.T) {
	for count := range 9 {
		for at := range count {
			m, facts := mustMake(t, 50, many(count, 20)...), many(count, 20)
			mustDrop(t, m, 20+at)
			mustBe(t, m, 50, slices.Delete(facts, at, at+1)...)
			mustNotDrop(t, m, 20+at)
			mustAdd(t, m, 50, 0, number(int64(at)))
			mustNotDrop(t, m, 20+at)
		}
	}
}

// P11.2: what is not there is not dropped.
func TestDropNone(t *testing.T) {
	m := mustMake(t, 10, fact(3, 0), fact(5, 1), fact(6, 2), fact(9, 3))
	for _, id := range []int{math.MinInt, -api.MaxId, -3, -1, 0, 1, 2, 4, 7, 8, 10, 11, 1<<32 + 3, api.MaxId, api.MaxId + 1, math.MaxInt} {
		mustNotDrop(t, m, id)
		mustLack(t, m, id)
	}
}
