package node_test

import (
	"math"
	"reflect"
	"slices"
	"strconv"
	"strings"
	"testing"

	"ropewalk/api"
	"ropewalk/node"
)

const (
	most    = "9223372036854775807"
	oneMore = "9223372036854775808"
	far     = 1<<31 - 1
)

var words = []string{"fact", "rule", "salience", "not", "test", "assert", "retract", "say", "halt", "and", "or"}

var (
	ofOne = []string{"-", "not"}
	ofTwo = []string{"or", "and", "=", "!=", "<", "<=", ">", ">=", "+", "-", "*"}
)

// tree is a node of that kind, text and Kids.
func tree(kind api.NodeKind, text string, kids ...api.Node) api.Node {
	return api.Node{Kind: kind, Text: text, Kids: kids}
}

func program(kids ...api.Node) api.Node { return tree(api.NodeProgram, "", kids...) }

func rule(kids ...api.Node) api.Node { return tree(api.NodeRule, "r", kids...) }

func counted(kind api.NodeKind, text string, num int) api.Node {
	return api.Node{Kind: kind, Text: text, Num: num}
}

func named(text string) api.Node { return tree(api.NodeVar, text) }

func number(text string) api.Node { return tree(api.NodeNum, text) }

func op(text string, kids ...api.Node) api.Node { return tree(api.NodeOp, text, kids...) }

func test(kids ...api.Node) api.Node { return tree(api.NodeTest, "", kids...) }

func say(kids ...api.Node) api.Node { return tree(api.NodeSay, "", kids...) }

// everything has nodes of each kind, at places of their own.
func everything() api.Node {
	n := program(
		tree(api.NodeType, "hive", tree(api.NodeField, "x"), tree(api.NodeField, "y")),
		tree(api.NodeRule, "up",
			tree(api.NodeFact, "hive", tree(api.NodeAny, ""), named("x"), number("-5"), tree(api.NodeAtom, "bee")),
			tree(api.NodeNot, "hive", tree(api.NodeAtom, "rule"), number("12"), named("not"), tree(api.NodeAny, "")),
			test(op("or", op("not", named("x")), op("-", op("-", number("7")), tree(api.NodeAtom, "a")))),
			tree(api.NodeAssert, "hive", named("x"), number("0"), tree(api.NodeAtom, "b"), op("*", number("2"), named("x"))),
			counted(api.NodeRetract, "", 1),
			say(named("x"), number("3"), tree(api.NodeAtom, "c"), op("<=", number("1"), named("y"))),
			tree(api.NodeHalt, "")),
		tree(api.NodeType, "q"),
		tree(api.NodeRule, "idle"))
	n.Kids[1].Num = -3
	place(&n, 0)
	return n
}

// place gives n and all below places from at on, and tells the next one.
func place(n *api.Node, at int) int {
	n.At = at
	for i := range n.Kids {
		at = place(&n.Kids[i], at+1)
	}
	return at
}

// copied is n in memory of its own.
func copied(n api.Node) api.Node {
	kids := slices.Clone(n.Kids)
	for i, k := range n.Kids {
		kids[i] = copied(k)
	}
	n.Kids = kids
	return n
}

// parts points to n and to all below.
func parts(n *api.Node) []*api.Node {
	l := []*api.Node{n}
	for i := range n.Kids {
		l = append(l, parts(&n.Kids[i])...)
	}
	return l
}

// mustBe holds what Right tells of n against want, each time, and that n stays as it is.
func mustBe(t *testing.T, n api.Node, want bool) {
	t.Helper()
	before := copied(n)
	for range 2 {
		if node.Right(n) != want {
			t.Errorf("%v: not %v", n, want)
		}
	}
	if !reflect.DeepEqual(n, before) {
		t.Errorf("%v was changed to %v", before, n)
	}
}

// around is a right program, but for n.
func around(n api.Node) api.Node {
	switch n.Kind {
	case api.NodeProgram:
		return n
	case api.NodeField:
		return program(tree(api.NodeType, "t", n))
	case api.NodeType, api.NodeRule:
		return program(n)
	case api.NodeAny:
		return program(rule(tree(api.NodeFact, "f", n)))
	case api.NodeVar, api.NodeNum, api.NodeAtom, api.NodeOp:
		return program(rule(say(n)))
	}
	return program(rule(n))
}

// P5.1: the chapter's examples.
func TestExamples(t *testing.T) {
	mustBe(t, program(), true)
	hive := tree(api.NodeType, "hive", tree(api.NodeField, "x"))
	mustBe(t, program(hive), true)
	mustBe(t, hive, false)
	mustBe(t, program(rule(tree(api.NodeHalt, ""), tree(api.NodeFact, "hive", named("x")))), false)
	mustBe(t, program(rule(tree(api.NodeFact, "hive", named("x")), tree(api.NodeHalt, ""))), true)
	mustBe(t, program(rule(say())), false)
	mustBe(t, program(rule(test(number("-1")))), false)
	mustBe(t, program(rule(test(number("1")))), true)
}

// P5.1: nodes of each kind make a program; none of them alone does.
func TestEverything(t *testing.T) {
	n := everything()
	mustBe(t, n, true)
	kinds := map[api.NodeKind]int{}
	for _, p := range parts(&n) {
		kinds[p.Kind]++
		if p != &n {
			mustBe(t, *p, false)
			mustBe(t, program(*p), p.Kind == api.NodeType || p.Kind == api.NodeRule)
		}
	}
	if len(kinds) != 16 {
		t.Errorf("%v", kinds)
	}
	mustBe(t, api.Node{}, false)
	mustBe(t, program(program()), false)
	mustBe(t, program(api.Node{}), false)
}

// texts are what a node's Text may be, apart.
func texts() map[string][]string {
	full := strings.Repeat("ab_0", 6)
	return map[string][]string{
		"nothing": {""},
		"names":   {"a", "z", "hive", "x1", "a_", "z9_", "end", "rules", "rul", "fac", "nor", "andor", "a0123456789", full},
		"words":   {"fact", "rule", "salience", "test", "assert", "retract", "say", "halt"},
		"numbers": {"0", "1", "9", "12", "007", "000", most, "0" + most, strings.Repeat("0", 20000) + "1"},
		"below":   {"-0", "-1", "-12", "-007", "-" + most, "-0" + most},
		"one":     {"not"},
		"either":  {"-"},
		"two":     {"=", "!=", "<", "<=", ">", ">=", "+", "*"},
		"both":    {"or", "and"},
		"none": {full + "a", full + "_", "A", "aB", "_", "_a", "1a", "a b", " a", "a ", "\ta", "a\n", "a\r", "a#", "#a", "a #b", "?a", "'a", "a;", "a!", "a\x00", "\x00", "\xff", "ä", "aä", " ", "\n", "#", "?", "'", "a-", "-a",
			oneMore, "0" + oneMore, "-" + oneMore, "--1", "--", "+1", "1 ", " 1", "- 1", "-1 ", "1\n", "1;", "1#", "0x1", "1_0", "1-", "1.0", "9" + most, "!", "==", "=>", "=<", "<>", "<==", "! =", "= ", " =", " -", "- ", "**", "++", "OR", "or ", " not", "-not", "not not", "/", "%", "(", ")", "{", "}", ",", ";",
			strings.Repeat("a", 1<<14), strings.Repeat("a", 1<<14+1), strings.Repeat("(", 1<<14), strings.Repeat("9", 1<<15), strings.Repeat("-", 1<<15)},
	}
}

// mustTake makes a program of each text: it is right if the text is one of those sets, alone.
func mustTake(t *testing.T, of func(text string) api.Node, sets ...string) {
	t.Helper()
	for set, l := range texts() {
		for _, text := range l {
			n := of(text)
			if node.Right(around(n)) != slices.Contains(sets, set) {
				t.Errorf("%d of the text %.40q, of %d", n.Kind, text, len(n.Kids))
			}
		}
	}
}

// P5.1: each kind's text.
func TestTexts(t *testing.T) {
	alone := func(kind api.NodeKind, kids ...api.Node) func(string) api.Node {
		return func(text string) api.Node { return tree(kind, text, kids...) }
	}
	for _, kind := range []api.NodeKind{api.NodeProgram, api.NodeRetract, api.NodeHalt, api.NodeAny} {
		mustTake(t, alone(kind), "nothing")
	}
	for _, kind := range []api.NodeKind{api.NodeTest, api.NodeSay} {
		mustTake(t, alone(kind, number("1")), "nothing")
	}
	for _, kind := range []api.NodeKind{api.NodeType, api.NodeField, api.NodeRule, api.NodeFact, api.NodeNot, api.NodeAssert} {
		mustTake(t, alone(kind), "names")
	}
	mustTake(t, alone(api.NodeVar), "names", "words", "one", "both")
	mustTake(t, alone(api.NodeAtom), "names", "words", "one", "both")
	mustTake(t, alone(api.NodeNum), "numbers")
	mustTake(t, alone(api.NodeOp), "")
	mustTake(t, alone(api.NodeOp, named("x")), "one", "either")
	mustTake(t, alone(api.NodeOp, named("x"), number("1")), "either", "two", "both")
	mustTake(t, alone(api.NodeOp, named("x"), number("1"), named("y")), "")
}

// P5.1: texts of Kids, where other ones are right than in an expression, and where not.
func TestTextsOfKids(t *testing.T) {
	for _, kind := range []api.NodeKind{api.NodeFact, api.NodeNot} {
		in := func(kid api.NodeKind) func(string) api.Node {
			return func(text string) api.Node { return tree(kind, "f", tree(api.NodeAny, ""), tree(kid, text)) }
		}
		mustTake(t, in(api.NodeNum), "numbers", "below")
		mustTake(t, in(api.NodeVar), "names", "words", "one", "both")
		mustTake(t, in(api.NodeAtom), "names", "words", "one", "both")
		mustTake(t, in(api.NodeAny), "nothing")
	}
	for _, in := range []func(kid api.Node) api.Node{
		func(kid api.Node) api.Node { return test(kid) },
		func(kid api.Node) api.Node { return say(named("x"), kid) },
		func(kid api.Node) api.Node { return tree(api.NodeAssert, "f", kid) },
		func(kid api.Node) api.Node { return op("-", kid) },
		func(kid api.Node) api.Node { return op("not", kid) },
		func(kid api.Node) api.Node { return op("-", kid, named("x")) },
		func(kid api.Node) api.Node { return test(op("=", named("x"), kid)) },
	} {
		mustTake(t, func(text string) api.Node { return in(number(text)) }, "numbers")
		mustTake(t, func(text string) api.Node { return in(named(text)) }, "names", "words", "one", "both")
		mustTake(t, func(text string) api.Node { return in(tree(api.NodeAtom, text)) }, "names", "words", "one", "both")
	}
}

// P5.1: each kind's numbers.
func TestNums(t *testing.T) {
	for _, num := range []int{0, 1, -1, 2, 1000, 1001, -1000, -1001, far - 1, far, far + 1, -far, -far - 1, 1 << 32, 1<<32 + 1, -1 << 32, math.MaxInt, math.MinInt} {
		mustBe(t, around(counted(api.NodeRule, "r", num)), -far <= num && num <= far)
		mustBe(t, around(counted(api.NodeRetract, "", num)), 0 <= num && num <= far)
		n := everything()
		for i, p := range parts(&n) {
			if p.Kind == api.NodeRule || p.Kind == api.NodeRetract {
				continue
			}
			turned := copied(n)
			parts(&turned)[i].Num = num
			mustBe(t, turned, num == 0)
		}
	}
}

// P5.1: places are from 0 on, of all nodes.
func TestPlaces(t *testing.T) {
	n := everything()
	for i := range parts(&n) {
		for _, at := range []int{-1, -2, math.MinInt, 0, 1, 1 << 14, 1 << 40, math.MaxInt} {
			turned := copied(n)
			parts(&turned)[i].At = at
			mustBe(t, turned, at >= 0)
		}
	}
}

// bare is a right node of that kind, with as few Kids as may be.
func bare(kind api.NodeKind) api.Node {
	switch kind {
	case api.NodeType, api.NodeField, api.NodeRule, api.NodeFact, api.NodeNot, api.NodeAssert, api.NodeVar, api.NodeAtom:
		return tree(kind, "a")
	case api.NodeTest, api.NodeSay:
		return tree(kind, "", named("x"))
	case api.NodeNum:
		return number("1")
	case api.NodeOp:
		return op("-", named("x"))
	}
	return tree(kind, "")
}

// P5.1: which kinds a Kid may be of, of each kind, alone and beside one that may be there.
func TestKinds(t *testing.T) {
	expressions := []api.NodeKind{api.NodeVar, api.NodeNum, api.NodeAtom, api.NodeOp}
	arguments := []api.NodeKind{api.NodeAny, api.NodeVar, api.NodeNum, api.NodeAtom}
	for _, c := range []struct {
		of   api.Node
		kids []api.NodeKind
	}{
		{program(), []api.NodeKind{api.NodeType, api.NodeRule}},
		{tree(api.NodeType, "t"), []api.NodeKind{api.NodeField}},
		{tree(api.NodeField, "f"), nil},
		{rule(), []api.NodeKind{api.NodeFact, api.NodeNot, api.NodeTest, api.NodeAssert, api.NodeRetract, api.NodeSay, api.NodeHalt}},
		{tree(api.NodeFact, "f"), arguments},
		{tree(api.NodeNot, "f"), arguments},
		{test(), expressions},
		{tree(api.NodeAssert, "f"), expressions},
		{counted(api.NodeRetract, "", 1), nil},
		{say(), expressions},
		{tree(api.NodeHalt, ""), nil},
		{tree(api.NodeAny, ""), nil},
		{named("x"), nil},
		{number("1"), nil},
		{tree(api.NodeAtom, "a"), nil},
		{op("-"), expressions},
		{op("not"), expressions},
		{op("+"), nil},
	} {
		for kind := range 256 {
			kid := bare(api.NodeKind(kind))
			may := slices.Contains(c.kids, kid.Kind)
			one := c.of
			one.Kids = []api.Node{kid}
			mustBe(t, around(one), may)
			for _, beside := range c.kids[:min(1, len(c.kids))] {
				two := c.of
				two.Kids = []api.Node{bare(beside), kid}
				mustBe(t, around(two), may && c.of.Kind != api.NodeTest && c.of.Text != "not")
			}
		}
	}
}

// P5.1: a node's own kind is one of the table's.
func TestKindsThatAreNone(t *testing.T) {
	n := everything()
	for i := range parts(&n) {
		for kind := range 256 {
			if 1 <= kind && kind <= 16 {
				continue
			}
			turned := copied(n)
			parts(&turned)[i].Kind = api.NodeKind(kind)
			mustBe(t, turned, false)
		}
	}
}

// P5.1: how many Kids there may be, where not any number.
func TestHowManyKids(t *testing.T) {
	for size := range 6 {
		kids := slices.Repeat([]api.Node{named("x")}, size)
		mustBe(t, around(test(kids...)), size == 1)
		mustBe(t, around(say(kids...)), size >= 1)
		mustBe(t, around(tree(api.NodeAssert, "f", kids...)), true)
		mustBe(t, around(tree(api.NodeFact, "f", kids...)), true)
		mustBe(t, around(tree(api.NodeNot, "f", kids...)), true)
		for _, s := range ofTwo {
			mustBe(t, around(op(s, kids...)), size == 2 || size == 1 && s == "-")
		}
		mustBe(t, around(op("not", kids...)), size == 1)
	}
	mustBe(t, around(say(slices.Repeat([]api.Node{number("1")}, 3000)...)), true)
}

// P5.1 with R6: Kids that are empty are none, nil or not.
func TestEmptyKids(t *testing.T) {
	n := everything()
	for _, p := range parts(&n) {
		if p.Kids == nil {
			p.Kids = []api.Node{}
		}
	}
	mustBe(t, n, true)
	mustBe(t, api.Node{Kind: api.NodeProgram, Kids: []api.Node{}}, true)
	mustBe(t, around(api.Node{Kind: api.NodeSay, Kids: []api.Node{}}), false)
	if !node.Same(n, everything()) || node.Deep(n) != node.Deep(everything()) {
		t.Error("empty Kids are not as nil ones")
	}
}

// P5.1: conditions stand ahead of actions, in any order among themselves: all rows of five of both.
func TestConditionsAheadOfActions(t *testing.T) {
	kinds := []api.NodeKind{api.NodeFact, api.NodeNot, api.NodeTest, api.NodeAssert, api.NodeRetract, api.NodeSay, api.NodeHalt}
	for code := range 7 * 7 * 7 * 7 * 7 {
		var kids []api.Node
		want, acts := true, false
		for rest := code; rest > 0; rest /= 7 {
			kids = append(kids, bare(kinds[rest%7]))
			want = want && !(acts && rest%7 < 3)
			acts = acts || rest%7 >= 3
		}
		if node.Right(program(rule(kids...))) != want {
			t.Errorf("%s: not %v", strconv.FormatInt(int64(code), 7), want)
		}
	}
}
