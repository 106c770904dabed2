package memory_test

import (
	"fmt"
	"maps"
	"math/rand"
	"regexp"
	"slices"
	"testing"

	"ropewalk/api"
	"ropewalk/memory"
)

// plain is the chapter's own words: facts by their numbers in a map.
type plain struct {
	facts map[int]api.Fact
	next  int
}

var named = regexp.MustCompile(`\A[a-z][a-z0-9_]{0,23}\z`)

func mayBe(kind int, args []api.Value) bool {
	for _, v := range args {
		if !(v.Kind == api.Int && v.Text == "" || v.Kind == api.Name && v.Num == 0 && named.MatchString(v.Text)) {
			return false
		}
	}
	return kind >= 0 && kind <= 31 && len(args) <= 6
}

func saysTheSame(a, b api.Fact) bool {
	is := a.Type == b.Type && len(a.Args) == len(b.Args)
	for i := 0; is && i < len(a.Args); i++ {
		v, w := a.Args[i], b.Args[i]
		is = v.Kind == w.Kind && v.Num == w.Num && v.Text == w.Text
	}
	return is
}

func (p *plain) find(kind int, args []api.Value) int {
	for id, f := range p.facts {
		if saysTheSame(f, fact(0, kind, args...)) {
			return id
		}
	}
	return 0
}

func (p *plain) add(kind int, args []api.Value) (int, api.Errno) {
	switch there := p.find(kind, args); {
	case !mayBe(kind, args):
		return 0, api.ErrArg
	case there != 0:
		return there, api.ErrThere
	case len(p.facts) == 256 || p.next > 1<<40:
		return 0, api.ErrFull
	}
	p.facts[p.next] = fact(p.next, kind, slices.Clone(args)...)
	p.next++
	return p.next - 1, api.OK
}

func (p *plain) drop(id int) api.Errno {
	if _, there := p.facts[id]; !there {
		return api.ErrNone
	}
	delete(p.facts, id)
	return api.OK
}

func (p *plain) all() []api.Fact {
	var l []api.Fact
	for _, id := range slices.Sorted(maps.Keys(p.facts)) {
		l = append(l, p.facts[id])
	}
	return l
}

// plainOf asks each line of P11.1 by itself.
func plainOf(next int, facts []api.Fact) bool {
	right := next >= 1 && next <= 1<<40+1 && len(facts) <= 256
	for i, f := range facts {
		right = right && mayBe(f.Type, f.Args) && f.Id >= 1 && f.Id < next
		for _, ahead := range facts[:i] {
			right = right && ahead.Id < f.Id && !saysTheSame(ahead, f)
		}
	}
	return right
}

// mustAgree holds Of against the plain reading, and tells whether the row makes a memory.
func mustAgree(t *testing.T, next int, row []api.Fact) bool {
	t.Helper()
	right := plainOf(next, row)
	if right {
		mustMake(t, next, row...)
	} else {
		mustNotMake(t, next, row...)
	}
	return right
}

// both are a memory and its plain reading, which take each step together.
type both struct {
	*memory.Memory
	plain
}

func begun() both { return both{memory.New(), plain{map[int]api.Fact{}, 1}} }

func (b *both) mustBeSame(t *testing.T) {
	t.Helper()
	mustBe(t, b.Memory, b.next, b.all()...)
}

func (b *both) mustAdd(t *testing.T, kind int, args ...api.Value) api.Errno {
	t.Helper()
	if id, there := b.Find(kind, args...); id != b.find(kind, args) || there != (id != 0) {
		t.Errorf("Find(%d, %s): %d, %v, not %d", kind, brief(args), id, there, b.find(kind, args))
	}
	ahead := slices.Clone(args)
	id, err := b.Add(kind, args...)
	if wantId, want := b.add(kind, args); id != wantId || err != want {
		t.Errorf("Add(%d, %s): %d, %v, not %d, %v", kind, brief(args), id, err, wantId, want)
	}
	if !slices.Equal(args, ahead) {
		t.Errorf("%s was changed to %s", brief(ahead), brief(args))
	}
	return err
}

func (b *both) mustDrop(t *testing.T, id int) api.Errno {
	t.Helper()
	if f, there := b.Get(id); !sameFact(f, b.facts[id]) || there != (f.Id != 0) {
		t.Errorf("Get(%d): %s, %v, not %s", id, brief(f), there, brief(b.facts[id]))
	}
	err := b.Drop(id)
	if want := b.drop(id); err != want {
		t.Errorf("Drop(%d): %v, not %v", id, err, want)
	}
	return err
}

// P11.2, P11.3: all ways of up to 6 steps that add one of three facts, or drop one of the first four Ids.
func TestAllShortPlainly(t *testing.T) {
	facts := []api.Fact{fact(0, 0), fact(0, 0, number(1)), fact(0, 1)}
	ways := 0
	each := 1
	for count := range 7 {
		for way := range each {
			b := begun()
			for range count {
				if step := way % 7; step < 3 {
					b.mustAdd(t, facts[step].Type, facts[step].Args...)
				} else {
					b.mustDrop(t, step-2)
				}
				way /= 7
			}
			ways++
			if all := b.All(); !sameFacts(all, b.all()) || b.Next() != b.next || b.Len() != len(all) {
				t.Fatalf("%s, not %s", brief(all), brief(b.all()))
			}
		}
		each *= 7
	}
	if ways < 100000 {
		t.Error(ways)
	}
}

// P11.1: all rows of up to three facts of a few Ids that say one of two things, for all next numbers of a few.
func TestAllShortOfPlainly(t *testing.T) {
	var some []api.Fact
	for id := range 6 {
		some = append(some, fact(id-1, 2), fact(id-1, 2, name("a")))
	}
	rows := [][]api.Fact{nil}
	for i := 0; len(rows[i]) < 3; i++ {
		for _, f := range some {
			rows = append(rows, append(slices.Clone(rows[i]), f))
		}
	}
	met := map[bool]int{}
	for _, row := range rows {
		for next := -1; next < 7; next++ {
			met[mustAgree(t, next, row)]++
		}
	}
	if met[true] < 50 || met[false] < 10000 {
		t.Errorf("%v", met)
	}
}

// chance makes facts; wrong is how many of a hundred of their parts are; the fewer kinds and values there are, the more often two say the same.
type chance struct {
	*rand.Rand
	wrong, kinds, values int
}

func (c chance) isWrong() bool { return c.Intn(100) < c.wrong }

func (c chance) kind() int {
	if c.isWrong() {
		return []int{-1, 32, 33, -32, 1 << 32}[c.Intn(5)]
	}
	return c.Intn(c.kinds)
}

func (c chance) value() api.Value {
	if c.isWrong() {
		return wrong()[c.Intn(len(wrong()))]
	}
	if c.Intn(2) == 0 {
		return number(int64(c.Intn(c.values)))
	}
	return name("n" + fmt.Sprint(c.Intn(c.values)))
}

func (c chance) row() []api.Value {
	var l []api.Value
	for range c.Intn(min(c.values+1, 7)) {
		l = append(l, c.value())
	}
	if c.isWrong() {
		l = append(l, numbers(1, 2, 3, 4, 5, 6)...)
	}
	return l
}

// id is one that is there, was there, or never was.
func (c chance) id(b both) int {
	if l := b.all(); len(l) > 0 && c.Intn(3) > 0 {
		return l[c.Intn(len(l))].Id
	}
	return b.next - c.Intn(b.next+2) + 1
}

// step is one of any; what it met is counted.
func (c chance) step(t *testing.T, b *both, drops int, met map[string]int) {
	t.Helper()
	if c.Intn(100) < drops {
		met[fmt.Sprint("Drop ", int(b.mustDrop(t, c.id(*b))))]++
		return
	}
	met[fmt.Sprint("Add ", int(b.mustAdd(t, c.kind(), c.row()...)))]++
}

// P11.1, P11.2, P11.3: any steps, each against the plain reading, on memories that are nearly empty, nearly full, or whose numbers come to an end; in between all that there is to ask.
func TestAnyPlainly(t *testing.T) {
	met := map[string]int{}
	for i := range 300 {
		r := rand.New(rand.NewSource(int64(i)))
		c := chance{r, i % 4, []int{1, 3, 32}[r.Intn(3)], []int{2, 5, 40}[r.Intn(3)]}
		b := begun()
		if i%5 == 0 {
			b.next = api.MaxId + 1 - r.Intn(40)
			b.Memory = mustMake(t, b.next)
		}
		drops := []int{5, 20, 45, 60}[r.Intn(4)]
		for n := range 500 {
			c.step(t, &b, drops, met)
			if n%100 == 99 {
				b.mustBeSame(t)
			}
		}
	}
	for _, what := range []string{"Add 0", "Add 2", "Add 5", "Add 7", "Drop 0", "Drop 6"} {
		if met[what] < 1000 {
			t.Errorf("%s: %d", what, met[what])
		}
	}
	if len(met) != 6 {
		t.Errorf("%v", met)
	}
}

// turned is row, of which one part may be another one.
func (c chance) turned(row []api.Fact, next int) ([]api.Fact, int) {
	row = copied(row)
	if c.Intn(4) == 0 {
		return row, []int{0, -1, api.MaxId + 1, api.MaxId + 2, next - 1, next + 1}[c.Intn(6)]
	}
	if len(row) == 0 {
		return row, next
	}
	f := &row[c.Intn(len(row))]
	switch c.Intn(6) {
	case 0:
		f.Id += c.Intn(5) - 2
	case 1:
		f.Type = c.kind()
	case 2:
		f.Args = c.row()
	case 3:
		g := &row[c.Intn(len(row))]
		f.Id, g.Id = g.Id, f.Id
	case 4:
		g := row[c.Intn(len(row))]
		f.Type, f.Args = g.Type, slices.Clone(g.Args)
	}
	return row, next
}

// P11.1: rows of memories that were gone through, with one part turned, against the plain reading.
func TestAnyOfPlainly(t *testing.T) {
	met := map[bool]int{}
	for i := range 3000 {
		r := rand.New(rand.NewSource(int64(i)))
		c := chance{r, 10, 2, 4}
		b := begun()
		for range r.Intn(60) {
			b.mustAdd(t, c.Intn(2), c.row()...)
			if c.Intn(3) == 0 {
				b.mustDrop(t, c.id(b))
			}
		}
		row, next := c.turned(b.all(), b.next)
		met[mustAgree(t, next, row)]++
	}
	if met[true] < 500 || met[false] < 500 {
		t.Errorf("%v", met)
	}
}
