package agenda_test

import (
	"math"
	"math/rand"
	"slices"
	"testing"

	"ropewalk/agenda"
	"ropewalk/api"
)

// salience is that of a match, by the chapter's words.
func salience(saliences []int, k api.Token) int {
	for rule, s := range saliences {
		if rule == k.Rule {
			return s
		}
	}
	return 0
}

// greatest takes the greatest Id out of a row.
func greatest(row []int) (int, []int) {
	at := 0
	for i, id := range row {
		if id > row[at] {
			at = i
		}
	}
	return row[at], slices.Concat(row[:at], row[at+1:])
}

// ahead tells whether a stands ahead of b, by one of the chapter's words behind the other.
func ahead(saliences []int, a, b api.Token) bool {
	if s, other := salience(saliences, a), salience(saliences, b); s != other {
		return s > other
	}
	left, right := a.Ids, b.Ids
	for len(left) > 0 && len(right) > 0 {
		var x, y int
		x, left = greatest(left)
		y, right = greatest(right)
		if x != y {
			return x > y
		}
	}
	if len(left) > 0 || len(right) > 0 {
		return len(left) > 0
	}
	if a.Rule != b.Rule {
		return a.Rule < b.Rule
	}
	for i := range a.Ids {
		if a.Ids[i] != b.Ids[i] {
			return a.Ids[i] < b.Ids[i]
		}
	}
	return false
}

// rows are all of up to that many of these Ids.
func rows(most int, ids ...int) [][]int {
	l := [][]int{nil}
	for i := 0; len(l[i]) < most; i++ {
		for _, id := range ids {
			l = append(l, append(slices.Clone(l[i]), id))
		}
	}
	return l
}

// all are matches of each of these rules with each of these rows.
func all(of []int, rows [][]int) []api.Token {
	var l []api.Token
	for _, rule := range of {
		l = append(l, tokens(rule, rows...)...)
	}
	return l
}

// mustAgree holds Better against the plain reading, both ways.
func mustAgree(t *testing.T, saliences []int, a, b api.Token) bool {
	t.Helper()
	r := rules(saliences...)
	want := ahead(saliences, a, b)
	if agenda.Better(r, a, b) != want || agenda.Better(r, b, a) != ahead(saliences, b, a) {
		t.Fatalf("%v: %v, %v: not %v", saliences, a, b, want)
	}
	return want
}

// P14.1: any two matches of up to three of a few Ids, of rules that are there and of such as are not, under any saliences of a few.
func TestAllTwoPlainly(t *testing.T) {
	l := all([]int{-1, 0, 1, 2}, rows(3, -2, 0, 5))
	met := map[bool]int{}
	for _, s := range [][]int{nil, {0}, {3}, {-3}, {0, 0}, {1, 2}, {2, 1}, {-1, 0}, {math.MinInt, math.MaxInt}} {
		for _, a := range l {
			for _, b := range l {
				met[mustAgree(t, s, a, b)]++
			}
		}
	}
	if met[true] < 100000 || met[false] < 100000 {
		t.Errorf("%v", met)
	}
}

// P14.1, P14.2, P14.3: any three matches under any saliences of a few, set in any order.
func TestAllThreePlainly(t *testing.T) {
	l := all([]int{0, 1}, rows(2, 1, 2))
	for _, s := range [][]int{{0, 0}, {0, 1}, {-1, -2}} {
		for i := range l {
			for j := range l {
				for k := range l {
					row := []api.Token{l[i], l[j], l[k]}
					a := made(t, s...)
					if i == j || j == k || k == i {
						mustNotSet(t, a, row...)
						continue
					}
					mustSet(t, a, row...)
					got := drained(t, a)
					if len(got) != 3 || !ahead(s, got[0], got[1]) || !ahead(s, got[1], got[2]) || !ahead(s, got[0], got[2]) {
						t.Fatalf("%v: %v: %v", s, row, got)
					}
				}
			}
		}
	}
}

// chance makes matches; the fewer Ids there are, the more often two are nearly alike.
type chance struct {
	*rand.Rand
	ids   []int
	rules int
	most  int
}

func chanceOf(seed int64) chance {
	r := rand.New(rand.NewSource(seed))
	ids := [][]int{{1, 2}, {1, 2, 3, 4, 5}, {-1, 0, 1}, {math.MinInt, math.MaxInt, 0}, {1, 10, 11, 100, 101, 110, 111}}[r.Intn(5)]
	return chance{r, ids, 1 + r.Intn(5), 1 + r.Intn(5)}
}

func (c chance) saliences() []int {
	var l []int
	for range c.rules {
		l = append(l, []int{0, 0, 1, -1, 5, 1000, math.MaxInt, math.MinInt}[c.Intn(8)])
	}
	return l
}

func (c chance) token() api.Token {
	k := api.Token{Rule: c.Intn(c.rules)}
	for range c.Intn(c.most + 1) {
		k.Ids = append(k.Ids, c.ids[c.Intn(len(c.ids))])
	}
	return k
}

// near is k, of which one thing is another one.
func (c chance) near(k api.Token) api.Token {
	k.Ids = slices.Clone(k.Ids)
	switch c.Intn(5) {
	case 0:
		k.Rule = c.Intn(c.rules+2) - 1
	case 1:
		k.Ids = append(k.Ids, c.ids[c.Intn(len(c.ids))])
	case 2:
		c.Shuffle(len(k.Ids), func(i, j int) { k.Ids[i], k.Ids[j] = k.Ids[j], k.Ids[i] })
	case 3:
		if len(k.Ids) > 0 {
			k.Ids[c.Intn(len(k.Ids))] = c.ids[c.Intn(len(c.ids))]
		}
	case 4:
		if len(k.Ids) > 0 {
			k.Ids = k.Ids[1:]
		}
	}
	return k
}

// P14.1: any two, longer ones, too, that are often nearly alike.
func TestAnyTwoPlainly(t *testing.T) {
	for seed := range 3000 {
		c := chanceOf(int64(seed))
		c.most *= 3
		s := c.saliences()
		for range 30 {
			k := c.token()
			mustAgree(t, s, k, c.near(k))
			mustAgree(t, s, c.near(k), c.near(k))
			mustAgree(t, s, k, c.token())
		}
	}
}

// both are an agenda and its plain reading, which take each step together.
type both struct {
	*testing.T
	*agenda.Agenda
	saliences    []int
	holds, fired []api.Token
}

func has(l []api.Token, k api.Token) bool {
	return slices.ContainsFunc(l, func(other api.Token) bool { return sameToken(k, other) })
}

func twice(l []api.Token) bool {
	for i, k := range l {
		if has(l[i+1:], k) {
			return true
		}
	}
	return false
}

// next is the one that stands ahead of all others that were not fired.
func (b *both) next() (api.Token, bool) {
	for _, k := range b.holds {
		first := !has(b.fired, k)
		for _, other := range b.holds {
			first = first && (sameToken(k, other) || has(b.fired, other) || ahead(b.saliences, k, other))
		}
		if first {
			return k, true
		}
	}
	return api.Token{}, false
}

func (b *both) set(row []api.Token) api.Errno {
	b.Helper()
	want := api.OK
	for _, k := range row {
		if k.Rule < 0 || k.Rule >= len(b.saliences) {
			want = api.ErrShape
		}
	}
	if twice(row) {
		want = api.ErrShape
	}
	if err := b.Set(row...); err != want {
		b.Fatalf("Set(%s): %v", brief(row), err)
	}
	if want == api.OK {
		b.holds = row
		b.fired = slices.DeleteFunc(b.fired, func(k api.Token) bool { return !has(row, k) })
	}
	return want
}

func (b *both) fire(k api.Token) api.Errno {
	b.Helper()
	want := api.ErrNone
	if has(b.holds, k) && !has(b.fired, k) {
		want = api.OK
		b.fired = append(b.fired, k)
	}
	if err := b.Fire(k); err != want {
		b.Fatalf("Fire(%v): %v", k, err)
	}
	return want
}

func (b *both) mustAgree() {
	b.Helper()
	want, there := b.next()
	if got, is := b.Next(); is != there || !sameToken(got, want) {
		b.Fatalf("Next: %v, %v, not %v, %v", got, is, want, there)
	}
	got := b.Fired()
	for i, k := range got {
		if !has(b.fired, k) || i > 0 && !ahead(b.saliences, got[i-1], k) {
			b.Fatalf("Fired: %s, not %s", brief(got), brief(b.fired))
		}
	}
	if len(got) != len(b.fired) {
		b.Fatalf("Fired: %s, not %s", brief(got), brief(b.fired))
	}
}

// row is the one that holds, with some less and some more, sometimes one twice or of no rule, mixed.
func (c chance) row(holds []api.Token) []api.Token {
	var l []api.Token
	for _, k := range holds {
		if c.Intn(4) > 0 {
			l = append(l, k)
		}
	}
	for range c.Intn(6) {
		if k := c.token(); c.Intn(20) == 0 || !has(l, k) {
			l = append(l, k)
		}
	}
	if len(l) > 0 && c.Intn(6) == 0 {
		if k := c.near(l[c.Intn(len(l))]); c.Intn(2) == 0 || !has(l, k) {
			l = append(l, k)
		}
	}
	c.Shuffle(len(l), func(i, j int) { l[i], l[j] = l[j], l[i] })
	return l
}

// some is a match to fire: the next one, one that holds, one that is near to such, or any.
func (c chance) some(b *both) api.Token {
	if k, there := b.next(); there && c.Intn(2) == 0 {
		return k
	}
	if len(b.holds) == 0 || c.Intn(6) == 0 {
		return c.token()
	}
	k := b.holds[c.Intn(len(b.holds))]
	if c.Intn(3) == 0 {
		return c.near(k)
	}
	return k
}

// P14.2, P14.3: any steps, each against the plain reading, with what is next and was fired told behind each.
func TestAnyPlainly(t *testing.T) {
	met := map[string]int{}
	for seed := range 600 {
		c := chanceOf(int64(seed))
		s := c.saliences()
		b := &both{T: t, Agenda: made(t, s...), saliences: s}
		for range 120 {
			if c.Intn(3) == 0 {
				met["Set "+b.set(c.row(b.holds)).Error()]++
			} else {
				met["Fire "+b.fire(c.some(b)).Error()]++
			}
			b.mustAgree()
			if _, there := b.next(); !there {
				met["none is next"]++
			}
		}
	}
	for _, err := range []string{"Set " + api.OK.Error(), "Set " + api.ErrShape.Error(), "Fire " + api.OK.Error(), "Fire " + api.ErrNone.Error(), "none is next"} {
		if met[err] < 1000 {
			t.Errorf("%s: %d", err, met[err])
		}
	}
	if len(met) != 5 {
		t.Errorf("%v", met)
	}
}

// P14.2, P14.3: all ways of up to five steps that set one of some rows, or fire one of three matches.
func TestAllShortPlainly(t *testing.T) {
	one, two, three := token(0, 1), token(1, 1), token(0)
	sets := [][]api.Token{{one, two, three}, {two, one}, {three}, nil, {two, two}, {one, token(2)}}
	fires := []api.Token{one, two, three}
	ways := 0
	each := 1
	for count := range 6 {
		for way := range each {
			b := &both{T: t, Agenda: made(t, 0, 1), saliences: []int{0, 1}}
			for range count {
				if step := way % 9; step < 6 {
					b.set(sets[step])
				} else {
					b.fire(fires[step-6])
				}
				way /= 9
			}
			b.mustAgree()
			ways++
		}
		each *= 9
	}
	if ways != (9*9*9*9*9*9-1)/8 {
		t.Error(ways)
	}
}
