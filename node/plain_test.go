package node_test

import (
	"math/big"
	"math/rand"
	"regexp"
	"slices"
	"testing"

	"ropewalk/api"
)

// line is one of the chapter's table: which texts there may be, from which number to which one, and which rows of Kids, each of these a letter.
type line struct {
	text      string
	low, high int
	kids      string
}

// letter is the one of a kind; ! of those that are none.
func letter(kind api.NodeKind) byte {
	const all = "!PTDRFNXaGSH_?1'o"
	if int(kind) >= len(all) {
		return '!'
	}
	return all[kind]
}

const (
	name       = `[a-z][a-z0-9_]{0,23}`
	expression = `[?1'o]`
	argument   = `[_?1']*`
)

// lines are the table's, by letters.
func lines(letter byte) []line {
	switch letter {
	case 'P':
		return []line{{``, 0, 0, `[TR]*`}}
	case 'T':
		return []line{{name, 0, 0, `D*`}}
	case 'D':
		return []line{{name, 0, 0, ``}}
	case 'R':
		return []line{{name, -2147483647, 2147483647, `[FNX]*[aGSH]*`}}
	case 'F', 'N':
		return []line{{name, 0, 0, argument}}
	case 'X':
		return []line{{``, 0, 0, expression}}
	case 'a':
		return []line{{name, 0, 0, expression + `*`}}
	case 'G':
		return []line{{``, 0, 2147483647, ``}}
	case 'S':
		return []line{{``, 0, 0, expression + `+`}}
	case 'H', '_':
		return []line{{``, 0, 0, ``}}
	case '?', '\'':
		return []line{{name, 0, 0, ``}}
	case '1':
		return []line{{`-?[0-9]+`, 0, 0, ``}}
	case 'o':
		return []line{{`-|not`, 0, 0, expression}, {`or|and|!?=|<=?|>=?|[+*-]`, 0, 0, expression + expression}}
	}
	return nil
}

var patterns = map[string]*regexp.Regexp{}

func fits(pattern, text string) bool {
	if patterns[pattern] == nil {
		patterns[pattern] = regexp.MustCompile(`\A(?s:` + pattern + `)\z`)
	}
	return patterns[pattern].MatchString(text)
}

// plain says what the chapter says of n, below a node of the letter above.
func plain(n api.Node, above byte) bool {
	own, row := letter(n.Kind), ""
	for _, k := range n.Kids {
		row += string(letter(k.Kind))
		if !plain(k, own) {
			return false
		}
	}
	if own == '1' {
		value, _ := new(big.Int).SetString(n.Text, 10)
		if value == nil || !new(big.Int).Abs(value).IsInt64() || n.Text[0] == '-' && above != 'F' && above != 'N' {
			return false
		}
	}
	if fits(name, n.Text) && slices.Contains(words, n.Text) && slices.Contains([]byte("TDRFNa"), own) {
		return false
	}
	return n.At >= 0 && slices.ContainsFunc(lines(own), func(l line) bool {
		return fits(l.text, n.Text) && l.low <= n.Num && n.Num <= l.high && fits(l.kids, row)
	})
}

func plainDeep(n api.Node) int {
	deep := 0
	for _, k := range n.Kids {
		deep = max(deep, plainDeep(k))
	}
	return deep + 1
}

func plainSame(a, b api.Node) bool {
	return a.Kind == b.Kind && a.Text == b.Text && a.Num == b.Num && slices.EqualFunc(a.Kids, b.Kids, plainSame)
}

// plainly holds what is told of n against what is plain, and tells whether it is right.
func plainly(t *testing.T, n api.Node) bool {
	t.Helper()
	deep := plainDeep(n)
	right := n.Kind == api.NodeProgram && deep <= 30 && howMany(n) <= 4096 && plain(n, 0)
	mustBe(t, n, right)
	mustBeDeep(t, n, deep)
	return right
}

// chance makes nodes, the same ones each time.
type chance struct{ *rand.Rand }

func maker(seed int64) chance { return chance{rand.New(rand.NewSource(seed))} }

func (m chance) one(of ...string) string { return of[m.Intn(len(of))] }

func (m chance) name() string { return m.one("a", "b", "hive", "x_1", "z9", "rules") }

// program is a right one; so is each of the nodes below.
func (m chance) program() api.Node {
	n := program(m.row(5, m.declaration)...)
	for _, p := range parts(&n) {
		p.At = m.Intn(1 << 14)
	}
	return n
}

func (m chance) row(most int, of func() api.Node) []api.Node {
	var l []api.Node
	for range m.Intn(most + 1) {
		l = append(l, of())
	}
	return l
}

func (m chance) declaration() api.Node {
	if m.Intn(2) == 0 {
		return tree(api.NodeType, m.name(), m.row(4, func() api.Node { return tree(api.NodeField, m.name()) })...)
	}
	n := tree(api.NodeRule, m.name(), append(m.row(4, m.condition), m.row(4, m.action)...)...)
	n.Num = []int{0, 0, 7, -1000, far, -far}[m.Intn(6)]
	return n
}

func (m chance) condition() api.Node {
	switch m.Intn(3) {
	case 0:
		return tree(api.NodeFact, m.name(), m.row(4, m.argument)...)
	case 1:
		return tree(api.NodeNot, m.name(), m.row(4, m.argument)...)
	}
	return test(m.expression(5))
}

func (m chance) argument() api.Node {
	if m.Intn(4) == 0 {
		return tree(api.NodeAny, "")
	}
	n := m.expression(1)
	if n.Kind == api.NodeNum {
		n.Text = m.one("", "-") + n.Text
	}
	return n
}

func (m chance) action() api.Node {
	switch m.Intn(4) {
	case 0:
		return tree(api.NodeAssert, m.name(), m.row(4, func() api.Node { return m.expression(4) })...)
	case 1:
		return counted(api.NodeRetract, "", []int{0, 1, 2, far}[m.Intn(4)])
	case 2:
		return say(append(m.row(2, func() api.Node { return m.expression(4) }), m.expression(3))...)
	}
	return tree(api.NodeHalt, "")
}

// expression is at most so deep.
func (m chance) expression(deep int) api.Node {
	if deep > 1 {
		switch m.Intn(3) {
		case 0:
			return op(m.one(ofOne...), m.expression(deep-1))
		case 1:
			return op(m.one(ofTwo...), m.expression(deep-1), m.expression(deep-1))
		}
	}
	switch m.Intn(3) {
	case 0:
		return named(m.one(m.name(), m.one(words...)))
	case 1:
		return number(m.one("0", "12", "007", most))
	}
	return tree(api.NodeAtom, m.one(m.name(), m.one(words...)))
}

// spoil turns one thing of n, which may be right thereafter, too.
func (m chance) spoil(n *api.Node) {
	all := parts(n)
	p, other := all[m.Intn(len(all))], copied(*all[m.Intn(len(all))])
	switch m.Intn(8) {
	case 0:
		p.Kind = api.NodeKind(m.Intn(18))
	case 1:
		p.Text = m.one("", "a", "rule", "not", "-", "+", "<=", "1", "-1", oneMore, "-"+most, "A", "a b", "?a", "a2345678901234567890123456")
	case 2:
		p.Num = []int{1, -1, 0, far, -far, far + 1, -far - 1}[m.Intn(7)]
	case 3:
		p.At = m.Intn(3) - 1
	case 4:
		p.Kids = append(p.Kids, other)
	case 5:
		*p = other
	case 6:
		p.Kids = p.Kids[:len(p.Kids)/2]
	case 7:
		slices.Reverse(p.Kids)
	}
}

// P5.1: any programs, right ones and such as were spoilt.
func TestAnyTree(t *testing.T) {
	m := maker(1)
	told := map[bool]int{}
	for range 6000 {
		n := m.program()
		if !plainly(t, n) {
			t.Errorf("%v: not right", n)
		}
		was := copied(n)
		for range 1 + m.Intn(2) {
			m.spoil(&n)
		}
		told[plainly(t, n)]++
		mustCompare(t, n, was, plainSame(n, was))
	}
	if told[true] < 600 || told[false] < 2400 {
		t.Errorf("told were %v", told)
	}
}

// P5.1: each node of any kinds, of one or two Kids of any kinds.
func TestAllSmallTrees(t *testing.T) {
	for kind := range api.NodeKind(18) {
		own := bare(kind)
		for first := range api.NodeKind(18) {
			own.Kids = []api.Node{bare(first)}
			plainly(t, around(own))
			plainly(t, own)
			for second := range api.NodeKind(18) {
				own.Kids = []api.Node{bare(first), bare(second)}
				plainly(t, around(own))
			}
		}
	}
}
