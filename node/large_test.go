package node_test

import (
	"math"
	"runtime/debug"
	"slices"
	"strings"
	"testing"

	"ropewalk/api"
	"ropewalk/node"
)

// nested is an expression that is so deep.
func nested(deep int) api.Node {
	n := named("x")
	for range deep - 1 {
		n = op("-", n)
	}
	return n
}

// P5.1: MaxNest deep is right, one more is not, wherever it is.
func TestRightDeep(t *testing.T) {
	const below = 3 // a program, a rule, a test
	for _, deep := range []int{1, 2, 10, api.MaxNest - 1, api.MaxNest, api.MaxNest + 1, api.MaxNest + 2, 100, 4000, 10000} {
		x := nested(deep - below)
		for _, n := range []api.Node{
			program(rule(test(x))),
			program(rule(test(number("1")), test(x), test(number("2")))),
			program(tree(api.NodeType, "t"), rule(say(number("1"), number("2"), x))),
			program(rule(), rule(tree(api.NodeAssert, "t", x, number("1"))), rule()),
		} {
			if deep > below {
				mustBe(t, n, deep <= api.MaxNest)
				mustBeDeep(t, n, deep)
			}
		}
	}
	n := program(rule(test(op("+", nested(26), op("*", nested(25), nested(25))))))
	mustBeDeep(t, n, 30)
	mustBe(t, n, true)
	n = program(rule(test(op("+", nested(26), op("*", nested(25), nested(26))))))
	mustBeDeep(t, n, 31)
	mustBe(t, n, false)
}

// P5.1: MaxNodes many are right, one more is not, wherever they are.
func TestRightMany(t *testing.T) {
	wide := func(many int) []api.Node {
		field := tree(api.NodeField, "f")
		fields := func(n int) []api.Node { return slices.Repeat([]api.Node{field}, n) }
		half := (many - 3) / 2
		var sized []api.Node
		left := many - 3
		for ; left >= 25; left -= 25 {
			sized = append(sized, addends(25))
		}
		sized = append(sized, slices.Repeat([]api.Node{number("1")}, left)...)
		return []api.Node{
			program(slices.Repeat([]api.Node{tree(api.NodeType, "t")}, many-1)...),
			program(tree(api.NodeType, "t", fields(many-2)...)),
			program(tree(api.NodeType, "t", fields(half)...), tree(api.NodeType, "u", fields(many-3-half)...)),
			program(rule(slices.Repeat([]api.Node{tree(api.NodeHalt, "")}, many-2)...)),
			program(rule(say(slices.Repeat([]api.Node{number("1")}, many-3)...))),
			program(rule(tree(api.NodeFact, "f", slices.Repeat([]api.Node{tree(api.NodeAny, "")}, many-3)...))),
			program(rule(say(sized...))),
		}
	}
	for _, many := range []int{100, api.MaxNodes - 1, api.MaxNodes, api.MaxNodes + 1, api.MaxNodes + 2, 2 * api.MaxNodes, 100000} {
		for i, n := range wide(many) {
			if howMany(n) != many {
				t.Fatalf("tree %d has %d nodes, not %d", i, howMany(n), many)
			}
			if node.Right(n) != (many <= api.MaxNodes) {
				t.Errorf("tree %d of %d nodes", i, many)
			}
		}
	}
}

// addends is a sum of that many nodes, an odd number.
func addends(many int) api.Node {
	n := number("1")
	for range (many - 1) / 2 {
		n = op("+", n, number("2"))
	}
	return n
}

func howMany(n api.Node) int {
	many := 1
	for _, k := range n.Kids {
		many += howMany(k)
	}
	return many
}

func mustBeDeep(t *testing.T, n api.Node, want int) {
	t.Helper()
	for range 2 {
		if got := node.Deep(n); got != want {
			t.Errorf("%d deep, not %d", got, want)
		}
	}
}

// P5.1: how deep nodes of any kind are, right or not.
func TestDeep(t *testing.T) {
	mustBeDeep(t, api.Node{}, 1)
	mustBeDeep(t, program(), 1)
	mustBeDeep(t, api.Node{Kind: 200, Text: "!", Num: -7, At: -1, Kids: []api.Node{}}, 1)
	mustBeDeep(t, api.Node{Kids: make([]api.Node, 9)}, 2)
	mustBeDeep(t, everything(), 7)
	leaf := api.Node{Kind: 99}
	three := tree(0, "", tree(0, "", leaf))
	mustBeDeep(t, three, 3)
	mustBeDeep(t, tree(0, "", three, leaf, leaf), 4)
	mustBeDeep(t, tree(0, "", leaf, three, leaf), 4)
	mustBeDeep(t, tree(0, "", leaf, leaf, three), 4)
	mustBeDeep(t, tree(0, "", three, tree(0, "", three), tree(0, "", leaf)), 5)
}

// P5.1 with R1: calls end at trees that are far deeper and wider than right ones, and do not nest as deep as these, for which the stack here is too small.
func TestHuge(t *testing.T) {
	defer debug.SetMaxStack(debug.SetMaxStack(1 << 20))
	const deep = 300000
	a, b := nested(deep), nested(deep)
	mustBeDeep(t, a, deep)
	if !node.Same(a, b) || node.Same(a, nested(deep-1)) || node.Same(nested(deep-1), a) {
		t.Error("deep trees")
	}
	if node.Right(a) || node.Right(program(rule(test(a)))) || node.Right(program(a)) {
		t.Error("a deep tree is right")
	}
	wide := program(slices.Repeat([]api.Node{tree(api.NodeType, "t")}, deep)...)
	mustBeDeep(t, wide, 2)
	other := program(slices.Clone(wide.Kids)...)
	if node.Right(wide) || !node.Same(wide, other) {
		t.Error("a wide tree")
	}
	other.Kids[deep-1].Text = "u"
	if node.Same(wide, other) {
		t.Error("wide trees that differ at their ends")
	}
	long := tree(api.NodeRule, strings.Repeat("a", 1<<24))
	if node.Right(program(long)) || node.Right(program(rule(say(number(strings.Repeat("9", 1<<24)))))) {
		t.Error("a long text is right")
	}
}

// doubled is a tree of 2^deep - 1 nodes, whose two Kids each are one row.
func doubled(deep int) api.Node {
	n := number("1")
	for range deep - 1 {
		n = op("+", n, n)
	}
	return n
}

// P5.1 with R1: parts that stand in a tree more than once count each time, which takes no longer.
func TestSharedRows(t *testing.T) {
	mustBe(t, program(rule(say(doubled(11), doubled(11)))), false)
	mustBe(t, program(rule(say(doubled(11), doubled(10), doubled(9), doubled(8), doubled(7), doubled(6)))), true)
	for _, deep := range []int{1, 2, 3, 12, 27, 28, 60, 1000, 100000} {
		n := doubled(deep)
		mustBeDeep(t, n, deep)
		mustBeDeep(t, program(rule(say(n, doubled(5)), say(doubled(4), n, n))), max(deep, 5)+3)
		if !node.Same(n, n) || !node.Same(n, doubled(deep)) || node.Same(n, doubled(deep+1)) {
			t.Errorf("%d deep: not the same", deep)
		}
		if deep > 12 && node.Right(program(rule(say(n)))) {
			t.Errorf("%d deep: right", deep)
		}
	}
	// Rows of one memory, that begin or end at other places, are others.
	row := []api.Node{named("a"), op("-", named("b")), named("c")}
	if node.Same(say(row...), say(row[:2]...)) || node.Same(say(row[:2]...), say(row[1:]...)) || !node.Same(say(row[:2]...), say(slices.Clone(row[:2])...)) {
		t.Error("parts of one row")
	}
	mustBeDeep(t, tree(0, "", say(row[:1]...), say(row...)), 4)
	mustBeDeep(t, tree(0, "", say(row[2:]...), say(row[:1]...)), 3)
}

// ring is a node that has itself below it, size nodes down.
func ring(kind api.NodeKind, text string, size int) api.Node {
	rows := make([][]api.Node, size)
	for i := range rows {
		rows[i] = []api.Node{tree(kind, text), tree(api.NodeNum, "1")}
	}
	for i := range rows {
		rows[i][0].Kids = rows[(i+1)%size]
	}
	return rows[0][0]
}

// R1: calls end at a node that holds itself, too.
func TestRings(t *testing.T) {
	for _, size := range []int{1, 2, 5, 1000} {
		n := ring(api.NodeOp, "+", size)
		if node.Right(n) || node.Right(program(rule(say(n)))) || node.Right(program(rule(say(number("1"), op("-", n))))) {
			t.Error("a ring is right")
		}
		for _, kind := range []api.NodeKind{api.NodeProgram, api.NodeRule, api.NodeType} {
			if node.Right(ring(kind, "", size)) || node.Right(program(ring(kind, "r", size))) {
				t.Error("a ring is right")
			}
		}
		mustBeDeep(t, n, math.MaxInt)
		mustBeDeep(t, program(rule(say(number("1"), n, number("2")))), math.MaxInt)
		if !node.Same(n, n) || !node.Same(n, ring(api.NodeOp, "+", size)) || node.Same(n, ring(api.NodeOp, "-", size)) {
			t.Error("rings")
		}
		if !node.Same(n, ring(api.NodeOp, "+", 3)) || node.Same(n, doubled(20)) || node.Same(addends(401), n) {
			t.Error("rings, and what is none")
		}
	}
}
