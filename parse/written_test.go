package parse_test

import (
	"math/rand"
	"reflect"
	"slices"
	"strconv"
	"strings"
	"testing"

	"ropewalk/api"
	"ropewalk/node"
	"ropewalk/parse"
)

// chance makes trees, and sources of them, the same ones each time.
type chance struct {
	*rand.Rand
	deep int // how deep expressions may be
}

func maker(seed int64, deep int) chance { return chance{rand.New(rand.NewSource(seed)), deep} }

func (m chance) one(of ...string) string { return of[m.Intn(len(of))] }

func (m chance) name() string {
	return m.one("a", "b", "hive", "x_1", "z9", "rules", "a23456789012345678901234")
}

// either is a name or a word, as behind a ? or a '.
func (m chance) either() string { return m.one(m.name(), m.name(), "rule", "not", "or", "halt") }

func (m chance) num() string { return m.one("0", "12", "007", "2147483648", most) }

func (m chance) row(most int, of func() api.Node) []api.Node {
	var l []api.Node
	for range m.Intn(most + 1) {
		l = append(l, of())
	}
	return l
}

func (m chance) program() api.Node {
	return api.Node{Kind: api.NodeProgram, Kids: m.row(4, m.declaration)}
}

func (m chance) declaration() api.Node {
	if m.Intn(3) == 0 {
		return api.Node{Kind: api.NodeType, Text: m.name(), Kids: m.row(4, func() api.Node { return api.Node{Kind: api.NodeField, Text: m.name()} })}
	}
	num := []int{0, 0, 0, 7, -7, 1000, far, -far}[m.Intn(8)]
	return api.Node{Kind: api.NodeRule, Text: m.name(), Num: num, Kids: append(m.row(4, m.condition), m.row(4, m.action)...)}
}

func (m chance) condition() api.Node {
	switch m.Intn(3) {
	case 0:
		return api.Node{Kind: api.NodeTest, Kids: []api.Node{m.expression(m.deep)}}
	case 1:
		return api.Node{Kind: api.NodeNot, Text: m.name(), Kids: m.row(4, m.argument)}
	}
	return api.Node{Kind: api.NodeFact, Text: m.name(), Kids: m.row(4, m.argument)}
}

func (m chance) argument() api.Node {
	switch m.Intn(4) {
	case 0:
		return api.Node{Kind: api.NodeAny}
	case 1:
		return api.Node{Kind: api.NodeNum, Text: m.one("", "-") + m.num()}
	}
	return m.single()
}

func (m chance) single() api.Node {
	switch m.Intn(3) {
	case 0:
		return api.Node{Kind: api.NodeNum, Text: m.num()}
	case 1:
		return api.Node{Kind: api.NodeVar, Text: m.either()}
	}
	return api.Node{Kind: api.NodeAtom, Text: m.either()}
}

func (m chance) action() api.Node {
	switch m.Intn(4) {
	case 0:
		return api.Node{Kind: api.NodeAssert, Text: m.name(), Kids: m.row(3, func() api.Node { return m.expression(m.deep) })}
	case 1:
		return api.Node{Kind: api.NodeRetract, Num: []int{0, 1, 9, far}[m.Intn(4)]}
	case 2:
		return api.Node{Kind: api.NodeSay, Kids: append(m.row(2, func() api.Node { return m.expression(m.deep) }), m.expression(m.deep))}
	}
	return api.Node{Kind: api.NodeHalt}
}

// expression is at most so deep.
func (m chance) expression(deep int) api.Node {
	if deep <= 1 || m.Intn(deep+1) == 0 {
		return m.single()
	}
	if m.Intn(3) == 0 {
		return api.Node{Kind: api.NodeOp, Text: m.one("-", "not"), Kids: []api.Node{m.expression(deep - 1)}}
	}
	// One side is short, as a source has an end.
	kids := []api.Node{m.expression(deep - 1), m.expression(min(deep-1, m.Intn(4)))}
	if m.Intn(2) == 0 {
		slices.Reverse(kids)
	}
	return api.Node{Kind: api.NodeOp, Text: m.one("or", "and", "=", "<", "+", "-", "*"), Kids: kids}
}

// writer writes trees as sources, with blanks, comments and brackets by chance, and gives the nodes their places.
type writer struct {
	chance
	strings.Builder
	begun    []*api.Node // those that begin with the next token
	last     byte
	brackets int // of twelve expressions, how many get some that they don't need
}

func isNameByte(c byte) bool {
	return c >= 'a' && c <= 'z' || c >= '0' && c <= '9' || c == '_'
}

// gap writes what may stand between tokens, and tells whether it was anything.
func (w *writer) gap() bool {
	from := w.Len()
	for w.Intn(3) == 0 {
		w.WriteString(w.one(" ", " ", "\t", "\r\n", "#\n", "# not; ?!\n"))
	}
	return w.Len() > from
}

// write writes tokens. Between two that would else be one stands a blank.
func (w *writer) write(tokens ...string) {
	for _, token := range tokens {
		if !w.gap() && isNameByte(w.last) && isNameByte(token[0]) {
			w.WriteByte(' ')
		}
		for _, n := range w.begun {
			n.At = w.Len()
		}
		w.begun = nil
		w.WriteString(token)
		w.last = token[len(token)-1]
	}
}

// begin begins a node with the next token.
func (w *writer) begin(n *api.Node) { w.begun = append(w.begun, n) }

func (w *writer) program(n *api.Node) {
	for i := range n.Kids {
		w.declaration(&n.Kids[i])
	}
	w.gap()
}

func (w *writer) declaration(n *api.Node) {
	w.begin(n)
	if n.Kind == api.NodeType {
		w.write("fact", n.Text)
		w.bracketed(n.Kids, w.single)
		w.write(";")
		return
	}
	w.write("rule", n.Text)
	switch {
	case n.Num < 0:
		w.write("salience", "-", w.small(-n.Num))
	case n.Num > 0 || w.Intn(3) == 0:
		w.write("salience", w.small(n.Num))
	}
	acts := slices.IndexFunc(n.Kids, func(k api.Node) bool { return k.Kind >= api.NodeAssert })
	if acts < 0 {
		acts = len(n.Kids)
	}
	w.write("{")
	for i := range n.Kids[:acts] {
		w.part(&n.Kids[i])
	}
	w.write("=>")
	for i := range n.Kids[acts:] {
		w.part(&n.Kids[acts+i])
	}
	w.write("}")
}

func (w *writer) small(num int) string { return w.one("", "", "00") + strconv.Itoa(num) }

// part writes a condition or an action.
func (w *writer) part(n *api.Node) {
	w.begin(n)
	switch n.Kind {
	case api.NodeFact:
		w.write(n.Text)
		w.bracketed(n.Kids, w.single)
	case api.NodeNot:
		w.write("not", n.Text)
		w.bracketed(n.Kids, w.single)
	case api.NodeTest:
		w.write("test")
		w.expression(&n.Kids[0])
	case api.NodeAssert:
		w.write("assert", n.Text)
		w.bracketed(n.Kids, w.expression)
	case api.NodeRetract:
		w.write("retract", w.small(n.Num))
	case api.NodeSay:
		w.write("say")
		w.row(n.Kids, w.expression)
	case api.NodeHalt:
		w.write("halt")
	}
	w.write(";")
}

func (w *writer) bracketed(kids []api.Node, one func(*api.Node)) {
	w.write("(")
	w.row(kids, one)
	w.write(")")
}

func (w *writer) row(kids []api.Node, one func(*api.Node)) {
	for i := range kids {
		if i > 0 {
			w.write(",")
		}
		one(&kids[i])
	}
}

// single writes what is one token, or a number behind a -.
func (w *writer) single(n *api.Node) {
	w.begin(n)
	digits, minus := strings.CutPrefix(n.Text, "-")
	switch {
	case n.Kind == api.NodeAny:
		w.write("_")
	case n.Kind == api.NodeVar:
		w.write("?" + n.Text)
	case n.Kind == api.NodeAtom:
		w.write("'" + n.Text)
	case minus:
		w.write("-", digits)
	default:
		w.write(n.Text)
	}
}

func (w *writer) expression(n *api.Node) { w.binding(n, 0) }

// binding writes an expression: in brackets, if it binds less than least, or by chance. Where it begins is behind these.
func (w *writer) binding(n *api.Node, least int) {
	level := len(levels)
	if len(n.Kids) == 2 {
		level = slices.IndexFunc(levels, func(of []string) bool { return slices.Contains(of, n.Text) })
	}
	brackets := 0
	for level < least && brackets == 0 || w.Intn(12) < w.brackets {
		brackets++
	}
	w.write(slices.Repeat([]string{"("}, brackets)...)
	switch len(n.Kids) {
	case 0:
		w.single(n)
	case 1:
		w.begin(n)
		w.write(n.Text)
		w.binding(&n.Kids[0], len(levels))
	case 2:
		w.begin(n)
		left := level
		if n.Text == "=" || n.Text == "<" {
			left++
		}
		w.binding(&n.Kids[0], left)
		w.write(n.Text)
		w.binding(&n.Kids[1], level+1)
	}
	w.write(slices.Repeat([]string{")"}, brackets)...)
}

// written is n as a source, by chance; n gets its places.
func (m chance) written(n *api.Node) string { return m.bracketed(n, 1) }

func (m chance) bracketed(n *api.Node, brackets int) string {
	w := writer{chance: m, brackets: brackets}
	w.program(n)
	return w.String()
}

// plainFirst is the place of the first node that has thirty above it, and whether there is one.
func plainFirst(n api.Node) (at int, found bool) {
	var look func(n api.Node, above int)
	look = func(n api.Node, above int) {
		if above == 30 && !found {
			at, found = n.At, true
		}
		for _, k := range n.Kids {
			look(k, above+1)
		}
	}
	look(n, 0)
	return at, found
}

// P6.1: any trees, each as the source that says it.
func TestWritten(t *testing.T) {
	m := maker(1, 6)
	kinds := map[api.NodeKind]int{}
	for range 4000 {
		n := m.program()
		s := m.written(&n)
		got := parsed(t, s)
		if shown(got) != shown(n) {
			t.Errorf("%q:\n%s, not\n%s", s, shown(got), shown(n))
		}
		if !node.Right(got) {
			t.Errorf("%q: %s is not right", s, shown(got))
		}
		for _, p := range parts(&n) {
			kinds[p.Kind]++
		}
	}
	if len(kinds) != 16 {
		t.Errorf("only %v were met", kinds)
	}
}

// P6.1: any trees of which some are too deep: the first node of these is told that is.
func TestWrittenDeep(t *testing.T) {
	m := maker(2, 45)
	deep := 0
	for range 4000 {
		n := m.program()
		s := m.written(&n)
		if len(s) > api.MaxSource {
			continue
		}
		got, fault := parse.Program(s)
		at, found := plainFirst(n)
		if !found && (shown(got) != shown(n) || fault != (api.Fault{})) {
			t.Errorf("%q:\n%s, %v, not\n%s", s, shown(got), fault, shown(n))
		}
		if found {
			deep++
			if want := (api.Fault{Err: api.ErrDeep, At: at}); fault != want || !reflect.DeepEqual(got, api.Node{}) {
				t.Errorf("%q:\n%s, %v, not %v", s, shown(got), fault, want)
			}
		}
	}
	if deep < 500 || deep > 3500 {
		t.Errorf("%d were too deep", deep)
	}
}
