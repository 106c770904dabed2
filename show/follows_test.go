package show_test

import (
	"math/rand"
	"strings"
	"testing"

	"ropewalk/api"
	"ropewalk/node"
	"ropewalk/parse"
	"ropewalk/show"
)

// chance makes right trees, the same ones each time.
type chance struct {
	*rand.Rand
	deep int // how deep expressions may be
}

func maker(seed int64, deep int) chance { return chance{rand.New(rand.NewSource(seed)), deep} }

func (m chance) one(of ...string) string { return of[m.Intn(len(of))] }

func (m chance) name() string {
	return m.one("a", "b", "hive", "x_1", "z9", "rules", "nota", "a23456789012345678901234")
}

// either is a name or a word, as behind a ? or a '.
func (m chance) either() string { return m.one(m.name(), m.name(), "rule", "not", "or", "halt") }

func (m chance) num() string { return m.one("0", "12", "007", "2147483648", most) }

func (m chance) row(most int, of func() api.Node) []api.Node {
	var l []api.Node
	for range m.Intn(most + 1) {
		l = append(l, of())
	}
	return l
}

func (m chance) program() api.Node {
	n := program(m.row(4, m.declaration)...)
	for _, p := range parts(&n) {
		p.At = m.Intn(1000)
	}
	return n
}

func (m chance) declaration() api.Node {
	if m.Intn(3) == 0 {
		return tree(api.NodeType, m.name(), m.row(4, func() api.Node { return tree(api.NodeField, m.name()) })...)
	}
	n := ranked([]int{0, 0, 0, 7, -7, 1000, far, -far}[m.Intn(8)], append(m.row(4, m.condition), m.row(4, m.action)...)...)
	n.Text = m.name()
	return n
}

func (m chance) condition() api.Node {
	switch m.Intn(3) {
	case 0:
		return test(m.expression(m.deep))
	case 1:
		return tree(api.NodeNot, m.name(), m.row(4, m.argument)...)
	}
	return tree(api.NodeFact, m.name(), m.row(4, m.argument)...)
}

func (m chance) argument() api.Node {
	switch m.Intn(4) {
	case 0:
		return blank()
	case 1:
		return number(m.one("", "-") + m.num())
	}
	return m.single()
}

func (m chance) single() api.Node {
	switch m.Intn(3) {
	case 0:
		return number(m.num())
	case 1:
		return variable(m.either())
	}
	return atom(m.either())
}

func (m chance) any() api.Node { return m.expression(m.deep) }

func (m chance) action() api.Node {
	switch m.Intn(4) {
	case 0:
		return tree(api.NodeAssert, m.name(), m.row(3, m.any)...)
	case 1:
		return retract([]int{0, 1, 9, far}[m.Intn(4)])
	case 2:
		return say(append(m.row(2, m.any), m.any())...)
	}
	return halt()
}

// expression is at most so deep.
func (m chance) expression(deep int) api.Node {
	if deep <= 1 || m.Intn(deep+1) == 0 {
		return m.single()
	}
	if m.Intn(3) == 0 {
		return op(m.one(ofOne...), m.expression(deep-1))
	}
	// One side is short, so that there is an end.
	long, short := m.expression(deep-1), m.expression(min(deep-1, m.Intn(4)))
	if m.Intn(2) == 0 {
		return op(m.one(ofTwo()...), short, long)
	}
	return op(m.one(ofTwo()...), long, short)
}

// P7.2: any trees are parsed as the same, but for places, and shown alike, wherever their nodes stand.
func TestAnyTrees(t *testing.T) {
	m := maker(1, 8)
	kinds := map[api.NodeKind]int{}
	for range 4000 {
		n := m.program()
		s := shown(t, n)
		mustBeParsed(t, n, s)
		for _, p := range parts(&n) {
			kinds[p.Kind]++
		}
		if lines := strings.Count(s, "\n"); lines != len(n.Kids) || lines > 0 && !strings.HasSuffix(s, "\n") {
			t.Errorf("%q: %d lines, of %d", s, lines, len(n.Kids))
		}
	}
	if len(kinds) != 16 {
		t.Errorf("only %v were met", kinds)
	}
}

// P7.2: trees that are the same are shown alike, those that are not are not.
func TestShownAlike(t *testing.T) {
	m := maker(2, 4)
	var all []api.Node
	var texts []string
	for range 200 {
		n := m.program()
		turned := copied(n)
		p := parts(&turned)[m.Intn(len(parts(&turned)))]
		p.At++
		if p.Kind == api.NodeVar && m.Intn(2) == 0 {
			p.Kind = api.NodeAtom
		}
		all = append(all, n, turned)
		texts = append(texts, shown(t, n), shown(t, turned))
	}
	alike := 0
	for i, a := range all {
		for k, b := range all[:i] {
			if same := texts[i] == texts[k]; same != node.Same(a, b) {
				t.Errorf("%v and %v: %v", a, b, same)
			}
			if texts[i] == texts[k] && texts[i] != "" {
				alike++
			}
		}
	}
	if alike < 100 || alike >= 200 {
		t.Errorf("%d were alike", alike)
	}
}

// P7.1: a program's text is that of its Kids, one behind the other.
func TestKidsApart(t *testing.T) {
	m := maker(3, 5)
	for range 500 {
		n := m.program()
		apart := ""
		for _, k := range n.Kids {
			apart += shown(t, program(k))
		}
		if s := shown(t, n); s != apart {
			t.Errorf("%q, not %q", s, apart)
		}
	}
}

// P7.2: a source is shown as another one that says the same: without its blanks, its comments, and brackets that it does not need.
func TestSources(t *testing.T) {
	for s, want := range map[string]string{
		"":                                   "",
		" # nothing\n":                       "",
		"fact  t ( a ,b ) ;fact q();":        "fact t(a, b);\nfact q();\n",
		"rule r{=>}":                         "rule r { => }\n",
		"rule r salience 0 { => }":           "rule r { => }\n",
		"rule r salience -0 { => }":          "rule r { => }\n",
		"rule r salience - 007 { => }":       "rule r salience -7 { => }\n",
		"rule r{p(- 5,_);not q( );=>halt;}":  "rule r { p(-5, _); not q(); => halt; }\n",
		"rule r{=>retract 007;}":             "rule r { => retract 7; }\n",
		"rule r{=>say 007 , ((1)+2)-(3*4);}": "rule r { => say 007, 1 + 2 - 3 * 4; }\n",
		"rule r{test(1=2)=(not((3)));=>}":    "rule r { test (1 = 2) = not 3; => }\n",
		"rule r{test not(1)-(-(1));=>}":      "rule r { test not 1 - -1; => }\n",
		"rule r{test not-not 1;=>}":          "rule r { test not -not 1; => }\n",
	} {
		n, fault := parse.Program(s)
		if fault != (api.Fault{}) {
			t.Errorf("%q: %v", s, fault)
			continue
		}
		if got, err := show.Program(n); got != want || err != api.OK {
			t.Errorf("%q: %q, %v, not %q", s, got, err, want)
		}
		mustBeParsed(t, n, want)
	}
}
