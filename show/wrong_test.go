package show_test

import (
	"math"
	"reflect"
	"slices"
	"strings"
	"testing"

	"ropewalk/api"
	"ropewalk/node"
	"ropewalk/show"
)

// mustFail shows n, which is no right program: ErrShape, no text, each time, and n stays as it is.
func mustFail(t *testing.T, n api.Node) {
	t.Helper()
	before := copied(n)
	for range 2 {
		if s, err := show.Program(n); s != "" || err != api.ErrShape {
			t.Errorf("%.200q, %v, of %s", s, err, brief(n))
		}
	}
	if !reflect.DeepEqual(n, before) {
		t.Errorf("%s was changed to %s", brief(before), brief(n))
	}
}

// P7.1: nodes of other kinds than a program, right as a part of one or not.
func TestOtherKinds(t *testing.T) {
	mustFail(t, api.Node{})
	n := everything()
	for _, p := range parts(&n)[1:] {
		mustFail(t, *p)
		if p.Kind != api.NodeType && p.Kind != api.NodeRule {
			mustFail(t, program(*p))
		}
	}
	for kind := range 256 {
		turned := everything()
		turned.Kind = api.NodeKind(kind)
		if turned.Kind != api.NodeProgram {
			mustFail(t, turned)
			mustFail(t, api.Node{Kind: turned.Kind})
		}
	}
	mustFail(t, program(program()))
	mustFail(t, program(api.Node{}))
}

// mustFailTurned turns each node of everything that is asked for, alone, which leaves it no right program.
func mustFailTurned(t *testing.T, which func(api.Node) bool, turn func(*api.Node)) {
	t.Helper()
	n, met := everything(), 0
	for i, p := range parts(&n) {
		if which(*p) {
			met++
			turned := copied(n)
			turn(parts(&turned)[i])
			mustFail(t, turned)
		}
	}
	if met == 0 {
		t.Error("none was turned")
	}
}

func isOf(kinds ...api.NodeKind) func(api.Node) bool {
	return func(n api.Node) bool { return slices.Contains(kinds, n.Kind) }
}

func isNotOf(kinds ...api.NodeKind) func(api.Node) bool {
	return func(n api.Node) bool { return !slices.Contains(kinds, n.Kind) }
}

func isAny(api.Node) bool { return true }

// P7.1: texts that are none of a node's kind.
func TestWrongTexts(t *testing.T) {
	for _, text := range []string{"A", "_", "_a", "1a", "a b", " a", "a ", "a;", "?a", "'a", "a\n", "ä", "\xff", "(", "--1", "+1", "- 1", "9223372036854775808", "==", "a23456789012345678901234x"} {
		mustFailTurned(t, isAny, func(n *api.Node) { n.Text = text })
	}
	for _, text := range []string{"a", "rule", "1", "+"} {
		mustFailTurned(t, isOf(api.NodeProgram, api.NodeTest, api.NodeRetract, api.NodeSay, api.NodeHalt, api.NodeAny), func(n *api.Node) { n.Text = text })
	}
	for _, text := range []string{"", "fact", "not", "or", "1", "-", "+"} {
		mustFailTurned(t, isOf(api.NodeType, api.NodeField, api.NodeRule, api.NodeFact, api.NodeNot, api.NodeAssert), func(n *api.Node) { n.Text = text })
	}
	for _, text := range []string{"", "1", "-", "+"} {
		mustFailTurned(t, isOf(api.NodeVar, api.NodeAtom), func(n *api.Node) { n.Text = text })
	}
	for _, text := range []string{"", "a", "-", "not"} {
		mustFailTurned(t, isOf(api.NodeNum), func(n *api.Node) { n.Text = text })
	}
	for _, text := range []string{"", "a", "1", "!", "=>", "_", "/"} {
		mustFailTurned(t, isOf(api.NodeOp), func(n *api.Node) { n.Text = text })
	}
	for _, x := range []api.Node{number("-1"), op("+", number("-1"), number("1")), op("-", number("-1"))} {
		mustFail(t, program(rule(test(x))))
		mustFail(t, program(rule(say(number("1"), x))))
		mustFail(t, program(rule(tree(api.NodeAssert, "p", x))))
	}
}

// P7.1: numbers and places that are none.
func TestWrongNumbers(t *testing.T) {
	for _, num := range []int{1, -1, far, math.MaxInt, math.MinInt} {
		mustFailTurned(t, isNotOf(api.NodeRule, api.NodeRetract), func(n *api.Node) { n.Num = num })
	}
	for _, num := range []int{far + 1, -far - 1, math.MaxInt, math.MinInt} {
		mustFailTurned(t, isOf(api.NodeRule, api.NodeRetract), func(n *api.Node) { n.Num = num })
	}
	mustFail(t, program(rule(retract(-1))))
	for _, at := range []int{-1, math.MinInt} {
		mustFailTurned(t, isAny, func(n *api.Node) { n.At = at })
	}
}

// P7.1: Kids that may not be there, too many and too few of them, and in a wrong order.
func TestWrongKids(t *testing.T) {
	for _, kid := range []api.Node{{}, {Kind: 17}, program(), tree(api.NodeField, "f", tree(api.NodeField, "g"))} {
		mustFailTurned(t, isAny, func(n *api.Node) { n.Kids = append(slices.Clone(n.Kids), kid) })
		mustFailTurned(t, isAny, func(n *api.Node) { n.Kids = append([]api.Node{kid}, n.Kids...) })
	}
	leaves := isOf(api.NodeField, api.NodeRetract, api.NodeHalt, api.NodeAny, api.NodeVar, api.NodeNum, api.NodeAtom)
	for _, kid := range []api.Node{number("1"), blank(), halt(), tree(api.NodeField, "f")} {
		mustFailTurned(t, leaves, func(n *api.Node) { n.Kids = []api.Node{kid} })
	}
	mustFailTurned(t, isOf(api.NodeTest, api.NodeSay, api.NodeOp), func(n *api.Node) { n.Kids = nil })
	mustFailTurned(t, isOf(api.NodeTest), func(n *api.Node) { n.Kids = append(slices.Clone(n.Kids), number("1")) })
	mustFailTurned(t, isOf(api.NodeTest, api.NodeAssert, api.NodeSay, api.NodeOp), func(n *api.Node) { n.Kids = append(slices.Clone(n.Kids[1:]), blank()) })
	mustFailTurned(t, isOf(api.NodeFact, api.NodeNot), func(n *api.Node) { n.Kids = append(slices.Clone(n.Kids), op("-", number("1"))) })
	x := number("1")
	for _, o := range ofTwo() {
		mustFail(t, program(rule(say(op(o)))))
		mustFail(t, program(rule(say(op(o, x, x, x)))))
		if o != "-" {
			mustFail(t, program(rule(say(op(o, x)))))
		}
	}
	mustFail(t, program(rule(say(op("not", x, x)))))
	for _, act := range []api.Node{tree(api.NodeAssert, "p"), retract(1), say(x), halt()} {
		for _, cond := range []api.Node{tree(api.NodeFact, "p"), tree(api.NodeNot, "p"), test(x)} {
			mustFail(t, program(rule(act, cond)))
			mustFail(t, program(rule(cond, act, cond, act)))
		}
	}
}

// P7.1 with R1: trees that are far too deep or too many, and one that holds itself.
func TestWrongSizes(t *testing.T) {
	deep := below(number("1"), 10000, func(x api.Node) api.Node { return op("-", x) })
	if s, err := show.Program(program(rule(say(deep)))); s != "" || err != api.ErrShape {
		t.Errorf("%.80q, %v", s, err)
	}
	shared := below(number("1"), 25, func(x api.Node) api.Node { return op("+", x, x) })
	if s, err := show.Program(program(rule(say(shared)))); s != "" || err != api.ErrShape {
		t.Errorf("%.80q, %v", s, err)
	}
	ring := []api.Node{op("-"), number("1")}
	ring[0].Kids = ring
	if s, err := show.Program(program(rule(say(ring...)))); s != "" || err != api.ErrShape {
		t.Errorf("%.80q, %v", s, err)
	}
	mustFail(t, program(tree(api.NodeType, strings.Repeat("a", 1<<20))))
}

// P7.1: any trees, of which something is turned: ErrShape, unless they are still right.
func TestTurnedTrees(t *testing.T) {
	m := maker(4, 6)
	right := 0
	const times = 6000
	for range times {
		n := m.program()
		all := parts(&n)
		one, other := all[m.Intn(len(all))], copied(*all[m.Intn(len(all))])
		switch m.Intn(6) {
		case 0:
			one.Kind = other.Kind
		case 1:
			one.Text = other.Text
		case 2:
			one.Num = other.Num
		case 3:
			one.At = -m.Intn(2)
		case 4:
			one.Kids = other.Kids
		case 5:
			one.Kids = append(slices.Clone(one.Kids), other)
		}
		if !node.Right(n) {
			mustFail(t, n)
			continue
		}
		right++
		mustBeParsed(t, n, shown(t, n))
	}
	if right < times/10 || right > times-times/10 {
		t.Errorf("%d were right", right)
	}
}
