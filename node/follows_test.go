package node_test

import (
	"slices"
	"testing"

	"ropewalk/api"
	"ropewalk/node"
)

// without is n but for its Kid k.
func without(n api.Node, k int) api.Node {
	n.Kids = slices.Delete(slices.Clone(n.Kids), k, k+1)
	return n
}

// changed is n with two of its Kids changed about.
func changed(n api.Node, k, l int) api.Node {
	n.Kids = slices.Clone(n.Kids)
	n.Kids[k], n.Kids[l] = n.Kids[l], n.Kids[k]
	return n
}

// mustStayRight tries n without each Kid, and with each two of them changed about.
func mustStayRight(t *testing.T, n api.Node) {
	t.Helper()
	mustBe(t, n, true)
	for k := range n.Kids {
		mustBe(t, without(n, k), true)
		for l := range k {
			mustBe(t, changed(n, k, l), true)
			mustCompare(t, changed(changed(n, k, l), k, l), n, true)
		}
	}
}

// P5.2: a right program's Kids may go, and change about.
func TestKidsOfPrograms(t *testing.T) {
	mustStayRight(t, everything())
	m := maker(2)
	for range 2000 {
		mustStayRight(t, m.program())
	}
}

// P5.2: of the largest programs, and the deepest ones, too.
func TestKidsOfLargePrograms(t *testing.T) {
	full := program(slices.Repeat([]api.Node{tree(api.NodeType, "t", tree(api.NodeField, "f"), tree(api.NodeField, "g"))}, (api.MaxNodes-1)/3)...)
	if howMany(full) != api.MaxNodes {
		t.Fatal(howMany(full))
	}
	full.Kids[1] = tree(api.NodeRule, "r", bare(api.NodeFact), bare(api.NodeHalt))
	for _, k := range []int{0, 1, 2, len(full.Kids) - 1} {
		if !node.Right(full) || !node.Right(without(full, k)) || !node.Right(changed(full, 1, k)) {
			t.Errorf("Kid %d of a full program", k)
		}
	}
	mustStayRight(t, program(rule(test(nested(api.MaxNest-3))), tree(api.NodeType, "t"), rule(say(nested(api.MaxNest-3)))))
}

// P5.2: turned places make no difference, to any of the calls.
func TestTurnedPlaces(t *testing.T) {
	m := maker(3)
	for range 3000 {
		n := m.program()
		if m.Intn(2) == 0 {
			m.spoil(&n)
			for _, p := range parts(&n) {
				p.At = max(p.At, 0)
			}
		}
		turned := copied(n)
		for _, p := range parts(&turned) {
			p.At = m.Intn(1 << 20)
		}
		mustBe(t, turned, node.Right(n))
		mustBeDeep(t, turned, node.Deep(n))
		mustCompare(t, turned, n, true)
		other := m.program()
		mustCompare(t, turned, other, node.Same(n, other))
	}
}
