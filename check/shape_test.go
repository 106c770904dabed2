package check_test

import (
	"math"
	"slices"
	"strings"
	"testing"

	"ropewalk/api"
	"ropewalk/check"
	"ropewalk/node"
	"ropewalk/parse"
)

func tree(kind api.NodeKind, text string, kids ...api.Node) api.Node {
	return api.Node{Kind: kind, Text: text, Kids: kids}
}

func program(kids ...api.Node) api.Node { return tree(api.NodeProgram, "", kids...) }

// ruleTree is a program of one rule.
func ruleTree(kids ...api.Node) api.Node { return program(tree(api.NodeRule, "r", kids...)) }

func sayTree(kids ...api.Node) api.Node { return tree(api.NodeSay, "", kids...) }

func digits(text string) api.Node { return tree(api.NodeNum, text) }

func parsed(t *testing.T, s string) api.Node {
	t.Helper()
	n, fault := parse.Program(s)
	if fault != (api.Fault{}) {
		t.Fatalf("%q: %v", s, fault)
	}
	return n
}

// mustBeNone tells of n, which is no right tree, ErrShape at 0, whatever else is wrong.
func mustBeNone(t *testing.T, n api.Node) {
	t.Helper()
	if r, fault := told(t, n); fault != (api.Fault{Err: api.ErrShape}) || !alike(r, api.Rules{}) {
		t.Errorf("%s: %s, %v", brief(n), brief(r), fault)
	}
}

// mustBeNoneTurned turns each node of everything that is asked for, alone, which leaves it no right tree.
func mustBeNoneTurned(t *testing.T, which func(api.Node) bool, turn func(*api.Node)) {
	t.Helper()
	n, met := parsed(t, everything), 0
	for i, p := range parts(&n) {
		if which(*p) {
			met++
			turned := deep(n)
			turn(parts(&turned)[i])
			mustBeNone(t, turned)
		}
	}
	if met == 0 {
		t.Error("none was turned")
	}
}

func isOf(kinds ...api.NodeKind) func(api.Node) bool {
	return func(n api.Node) bool { return slices.Contains(kinds, n.Kind) }
}

func isAny(api.Node) bool { return true }

// P8.1: nodes that are no program, right as a part of one or not.
func TestNoPrograms(t *testing.T) {
	mustBeNone(t, api.Node{})
	n := parsed(t, everything)
	for _, p := range parts(&n)[1:] {
		mustBeNone(t, *p)
		if p.Kind != api.NodeType && p.Kind != api.NodeRule {
			mustBeNone(t, program(*p))
		}
	}
	for kind := range 256 {
		turned := deep(n)
		turned.Kind = api.NodeKind(kind)
		if turned.Kind != api.NodeProgram {
			mustBeNone(t, turned)
		}
		if !slices.Contains([]int{2, 4}, kind) {
			mustBeNone(t, program(api.Node{Kind: api.NodeKind(kind), Text: "a"}))
		}
	}
	mustBeNone(t, program(program()))
}

// P8.1: nodes of texts, numbers and places that may not be, in each place.
func TestNodesThatAreNone(t *testing.T) {
	for _, text := range []string{"A", "_a", "1a", "a b", "a ", "?a", "'a", "ä", "--1", "9223372036854775808", "-9223372036854775808", "==", strings.Repeat("a", 25)} {
		mustBeNoneTurned(t, isAny, func(n *api.Node) { n.Text = text })
	}
	mustBeNoneTurned(t, isOf(api.NodeProgram, api.NodeTest, api.NodeRetract, api.NodeSay, api.NodeHalt, api.NodeAny), func(n *api.Node) { n.Text = "a" })
	for _, text := range []string{"", "fact", "not", "-"} {
		mustBeNoneTurned(t, isOf(api.NodeType, api.NodeField, api.NodeRule, api.NodeFact, api.NodeNot, api.NodeAssert), func(n *api.Node) { n.Text = text })
	}
	mustBeNoneTurned(t, isOf(api.NodeVar, api.NodeAtom, api.NodeNum, api.NodeOp), func(n *api.Node) { n.Text = "" })
	mustBeNoneTurned(t, isOf(api.NodeNum, api.NodeOp), func(n *api.Node) { n.Text = "a" })
	mustBeNoneTurned(t, func(n api.Node) bool { return n.Kind != api.NodeRule && n.Kind != api.NodeRetract }, func(n *api.Node) { n.Num = 1 })
	for _, num := range []int{far + 1, -far - 1, math.MaxInt, math.MinInt} {
		mustBeNoneTurned(t, isAny, func(n *api.Node) { n.Num = num })
	}
	mustBeNoneTurned(t, isOf(api.NodeRetract), func(n *api.Node) { n.Num = -1 })
	mustBeNoneTurned(t, isAny, func(n *api.Node) { n.At = -1 })
	mustBeNoneTurned(t, isAny, func(n *api.Node) { n.Kind = 17 })
	mustBeNoneTurned(t, isAny, func(n *api.Node) { n.Kind = 0 })
	for _, kid := range []api.Node{{}, program(), {Kind: 17}} {
		mustBeNoneTurned(t, isAny, func(n *api.Node) { n.Kids = append(slices.Clone(n.Kids), kid) })
	}
	mustBeNoneTurned(t, isOf(api.NodeTest, api.NodeSay, api.NodeOp), func(n *api.Node) { n.Kids = nil })
	mustBeNone(t, ruleTree(sayTree(digits("-1"))))
	mustBeNone(t, ruleTree(tree(api.NodeHalt, ""), tree(api.NodeFact, "p")))
	mustBeNone(t, ruleTree(tree(api.NodeFact, "p", tree(api.NodeOp, "-", digits("1")))))
}

// P8.1: a tree that is not right is none, whatever else is wrong in it, ahead of that or behind.
func TestShapeAheadOfAll(t *testing.T) {
	for _, s := range []string{"fact p(); fact p();", "fact p(a, a);", "rule r salience 1001 { => }", "rule r { none(); => }", "rule r { => say ?x; }", "rule r { => retract 0; }"} {
		n := parsed(t, s)
		mustBeNone(t, program(append(slices.Clone(n.Kids), tree(api.NodeHalt, ""))...))
		mustBeNone(t, program(append([]api.Node{{}}, n.Kids...)...))
		for i := range parts(&n) {
			turned := deep(n)
			parts(&turned)[i].At = -1
			mustBeNone(t, turned)
		}
	}
}

// P8.1: trees that are just not too deep, or too many, and such as are, one that holds itself among them.
func TestSizesOfTrees(t *testing.T) {
	nested := func(deep int) api.Node {
		x := digits("1")
		for range deep - 4 {
			x = tree(api.NodeOp, "-", x)
		}
		return ruleTree(sayTree(x))
	}
	wide := func(many int) api.Node {
		return ruleTree(sayTree(slices.Repeat([]api.Node{digits("1")}, many-3)...))
	}
	for n, want := range map[*api.Node]api.Fault{
		ptr(nested(api.MaxNest)): {}, ptr(nested(api.MaxNest + 1)): {Err: api.ErrShape}, ptr(nested(1000)): {Err: api.ErrShape},
		ptr(wide(api.MaxNodes)): {}, ptr(wide(api.MaxNodes + 1)): {Err: api.ErrShape}, ptr(wide(100000)): {Err: api.ErrShape},
	} {
		r, fault := told(t, *n)
		if fault != want || (len(r.Rules) == 1) != (want.Err == api.OK) {
			t.Errorf("%d deep: %v, not %v", node.Deep(*n), fault, want)
		}
	}
	r, _ := told(t, wide(api.MaxNodes))
	if len(r.Rules[0].Acts[0].Exprs) != api.MaxNodes-3 {
		t.Errorf("%d are said", len(r.Rules[0].Acts[0].Exprs))
	}
	ring := []api.Node{tree(api.NodeOp, "-"), digits("1")}
	ring[0].Kids = ring
	for range 2 {
		if r, fault := check.Make(ruleTree(sayTree(ring...))); fault != (api.Fault{Err: api.ErrShape}) || !alike(r, api.Rules{}) {
			t.Errorf("a ring: %s, %v", brief(r), fault)
		}
	}
}

func ptr(n api.Node) *api.Node { return &n }

// P8.2: what no source says as long as it is: numbers of very many noughts.
func TestLongNumbers(t *testing.T) {
	noughts := strings.Repeat("0", 1<<16)
	n := program(tree(api.NodeType, "p", tree(api.NodeField, "a")), tree(api.NodeRule, "r",
		tree(api.NodeFact, "p", digits("-"+noughts+"5")), tree(api.NodeNot, "p", digits(noughts+"6")), sayTree(digits(noughts+"7"), digits(noughts))))
	want := api.Rules{Types: []api.Type{{Name: "p", Fields: 1}}, Rules: []api.Rule{{Name: "r", Conds: []api.Cond{fact(0, is(number(-5))), not(0, is(number(6)))}, Acts: []api.Act{say(one(7), one(0))}}}}
	if r, fault := told(t, n); fault != (api.Fault{}) || !alike(r, want) {
		t.Errorf("%s, %v", brief(r), fault)
	}
}
