package node_test

import (
	"math"
	"reflect"
	"slices"
	"testing"

	"ropewalk/api"
	"ropewalk/node"
)

// mustCompare holds what Same tells of a and b, either way round, against want, and that both stay as they are.
func mustCompare(t *testing.T, a, b api.Node, want bool) {
	t.Helper()
	a0, b0 := copied(a), copied(b)
	for range 2 {
		if node.Same(a, b) != want || node.Same(b, a) != want {
			t.Errorf("%v and %v: not %v", a, b, want)
		}
	}
	if !reflect.DeepEqual(a, a0) || !reflect.DeepEqual(b, b0) {
		t.Errorf("%v or %v was changed", a0, b0)
	}
}

// P5.1: nodes that are the same, of any kind, right or not.
func TestSame(t *testing.T) {
	any := api.Node{Kind: 77, Text: "!\x00", Num: math.MinInt, At: -9, Kids: []api.Node{{}, {Kind: 255, Num: 1}}}
	for _, n := range []api.Node{{}, program(), everything(), any, nested(100), tree(0, "", any, any, everything())} {
		mustCompare(t, n, n, true)
		mustCompare(t, n, copied(n), true)
		mustCompare(t, n, tree(api.NodeOp, "-", n), false)
		mustCompare(t, tree(9, "a", n, n), tree(9, "a", n, copied(n)), true)
	}
	mustCompare(t, api.Node{Kids: []api.Node{}}, api.Node{}, true)
	mustCompare(t, say(api.Node{Kids: []api.Node{}}), say(api.Node{}), true)
}

// P5.1: places make no difference, wherever they stand.
func TestSameButForPlaces(t *testing.T) {
	n := everything()
	for i := range parts(&n) {
		for _, at := range []int{-1, 0, 5, 1 << 14, math.MaxInt, math.MinInt} {
			turned := copied(n)
			parts(&turned)[i].At = at
			mustCompare(t, n, turned, true)
		}
	}
	turned := copied(n)
	for i, p := range parts(&turned) {
		p.At = 1000 - i
	}
	mustCompare(t, n, turned, true)
}

// P5.1: all else does make one, wherever it stands.
func TestNotSame(t *testing.T) {
	n := everything()
	for i, was := range parts(&n) {
		for _, turn := range []func(p *api.Node){
			func(p *api.Node) { p.Kind++ },
			func(p *api.Node) { p.Kind = 0 },
			func(p *api.Node) { p.Text += "a" },
			func(p *api.Node) { p.Text = "other" },
			func(p *api.Node) { p.Num++ },
			func(p *api.Node) { p.Num -= 1 << 32 },
			func(p *api.Node) { p.Kids = append(p.Kids, api.Node{}) },
			func(p *api.Node) { p.Kids = append([]api.Node{named("a")}, p.Kids...) },
			func(p *api.Node) { *p = op("-", *p) },
		} {
			turned := copied(n)
			turn(parts(&turned)[i])
			mustCompare(t, n, turned, false)
		}
		for k := range was.Kids {
			less := copied(n)
			p := parts(&less)[i]
			p.Kids = slices.Delete(p.Kids, k, k+1)
			mustCompare(t, n, less, false)
			twice := copied(n)
			p = parts(&twice)[i]
			p.Kids = slices.Insert(p.Kids, k, p.Kids[k])
			mustCompare(t, n, twice, false)
			for l := range k {
				about := copied(n)
				p = parts(&about)[i]
				p.Kids[k], p.Kids[l] = p.Kids[l], p.Kids[k]
				mustCompare(t, n, about, false)
			}
		}
	}
	mustCompare(t, number("1"), number("01"), false)
	mustCompare(t, named("a"), tree(api.NodeAtom, "a"), false)
	mustCompare(t, say(named("a"), named("b")), say(named("a")), false)
	mustCompare(t, say(op("-", named("a")), named("b")), say(op("-", named("a"), named("b"))), false)
	mustCompare(t, say(named("a"), named("b")), say(named("b"), named("a")), false)
}

// R4: what calls told of a tree is told anew of what it is then.
func TestNothingIsKept(t *testing.T) {
	n := program(rule(say(op("-", named("x")))))
	was := copied(n)
	mustBe(t, n, true)
	mustBeDeep(t, n, 5)
	mustCompare(t, n, was, true)
	n.Kids[0].Kids[0].Kids[0].Kids[0] = number("-1")
	mustBe(t, n, false)
	mustCompare(t, n, was, false)
	n.Kids[0].Kids[0].Kids[0].Kids[0] = op("not", named("x"))
	mustBe(t, n, true)
	mustBeDeep(t, n, 6)
	mustCompare(t, n, was, false)
}
