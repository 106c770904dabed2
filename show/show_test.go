package show_test

import (
	"fmt"
	"reflect"
	"slices"
	"strings"
	"testing"

	"ropewalk/api"
	"ropewalk/node"
	"ropewalk/parse"
	"ropewalk/show"
)

const (
	most = "9223372036854775807"
	far  = 1<<31 - 1
)

// tree is a node of that kind, text and Kids.
func tree(kind api.NodeKind, text string, kids ...api.Node) api.Node {
	return api.Node{Kind: kind, Text: text, Kids: kids}
}

func program(kids ...api.Node) api.Node { return tree(api.NodeProgram, "", kids...) }

func fields(names ...string) []api.Node {
	var l []api.Node
	for _, name := range names {
		l = append(l, tree(api.NodeField, name))
	}
	return l
}

func rule(kids ...api.Node) api.Node { return tree(api.NodeRule, "r", kids...) }

func ranked(num int, kids ...api.Node) api.Node {
	n := rule(kids...)
	n.Num = num
	return n
}

func retract(num int) api.Node { return api.Node{Kind: api.NodeRetract, Num: num} }

func test(x api.Node) api.Node { return tree(api.NodeTest, "", x) }

func say(kids ...api.Node) api.Node { return tree(api.NodeSay, "", kids...) }

func halt() api.Node { return tree(api.NodeHalt, "") }

func blank() api.Node { return tree(api.NodeAny, "") }

func variable(text string) api.Node { return tree(api.NodeVar, text) }

func number(text string) api.Node { return tree(api.NodeNum, text) }

func atom(text string) api.Node { return tree(api.NodeAtom, text) }

func op(text string, kids ...api.Node) api.Node { return tree(api.NodeOp, text, kids...) }

// copied is n in memory of its own.
func copied(n api.Node) api.Node {
	n.Kids = slices.Clone(n.Kids)
	for i, k := range n.Kids {
		n.Kids[i] = copied(k)
	}
	return n
}

// parts points to n and to all below.
func parts(n *api.Node) []*api.Node {
	l := []*api.Node{n}
	for i := range n.Kids {
		l = append(l, parts(&n.Kids[i])...)
	}
	return l
}

// place gives n and all below places from at on, and tells the next one.
func place(n *api.Node, at int) int {
	n.At = at
	for i := range n.Kids {
		at = place(&n.Kids[i], at+1)
	}
	return at
}

// brief is n as a text for a test's report, cut where it is long.
func brief(n api.Node) string { return fmt.Sprintf("%.1000s", fmt.Sprint(n)) }

// shown is what is told of a right n, each time, wherever its nodes stand; n stays as it is.
func shown(t *testing.T, n api.Node) string {
	t.Helper()
	before := copied(n)
	s, err := show.Program(n)
	if err != api.OK {
		t.Errorf("%s: %v", brief(n), err)
	}
	if again, err := show.Program(n); again != s || err != api.OK {
		t.Errorf("%.200q: then %.200q, %v", s, again, err)
	}
	if !reflect.DeepEqual(n, before) {
		t.Errorf("%.200q: %s was changed to %s", s, brief(before), brief(n))
	}
	place(&before, 1000)
	if again, err := show.Program(before); again != s || err != api.OK {
		t.Errorf("%.200q: at other places %.200q, %v", s, again, err)
	}
	return s
}

// mustBeParsed parses s, which n is shown as: it is the same tree, and shown alike.
func mustBeParsed(t *testing.T, n api.Node, s string) {
	t.Helper()
	back, fault := parse.Program(s)
	if fault != (api.Fault{}) || !node.Same(back, n) {
		t.Errorf("%.200q is parsed as %s, %v, not %s", s, brief(back), fault, brief(n))
		return
	}
	if again, err := show.Program(back); again != s || err != api.OK {
		t.Errorf("%.200q: parsed, and shown, %.200q, %v", s, again, err)
	}
}

// mustShow holds what n is shown as against want, and parses it.
func mustShow(t *testing.T, n api.Node, want string) {
	t.Helper()
	s := shown(t, n)
	if s != want {
		t.Errorf("%.400q, not %.400q", s, want)
	}
	mustBeParsed(t, n, s)
}

// mustSay holds what an expression is shown as, wherever one may stand, against want.
func mustSay(t *testing.T, x api.Node, want string) {
	t.Helper()
	mustShow(t, program(rule(test(x))), "rule r { test "+want+"; => }\n")
	mustShow(t, program(rule(say(x, x))), "rule r { => say "+want+", "+want+"; }\n")
	mustShow(t, program(rule(tree(api.NodeAssert, "p", x, x))), "rule r { => assert p("+want+", "+want+"); }\n")
}

// P7.1: the chapter's examples.
func TestExamples(t *testing.T) {
	x := variable("x")
	mustShow(t, program(ranked(-3,
		tree(api.NodeFact, "hive", x, number("-5")),
		test(op("=", op("*", op("not", op("+", number("1"), number("2"))), x), number("3"))),
		say(op("=", op("=", number("1"), number("2")), atom("a"))))),
		"rule r salience -3 { hive(?x, -5); test not (1 + 2) * ?x = 3; => say (1 = 2) = 'a; }\n")
	mustShow(t, program(tree(api.NodeRule, "q")), "rule q { => }\n")
	a, b, c := variable("a"), variable("b"), variable("c")
	mustSay(t, op("-", a, op("-", b, c)), "?a - (?b - ?c)")
	mustSay(t, op("-", op("-", a, b), c), "?a - ?b - ?c")
	mustSay(t, op("-", op("-", number("1"))), "--1")
}

// P7.1: a program without declarations is no text.
func TestNothing(t *testing.T) {
	mustShow(t, program(), "")
	mustShow(t, api.Node{Kind: api.NodeProgram, At: 7, Kids: []api.Node{}}, "")
}

// everything has nodes of each kind.
func everything() api.Node {
	n := program(
		tree(api.NodeType, "hive", fields("x", "y")...),
		ranked(-3,
			tree(api.NodeFact, "hive", blank(), variable("x"), number("-5"), atom("bee")),
			tree(api.NodeNot, "hive", atom("rule"), number("12"), variable("not"), blank()),
			test(op("or", op("not", variable("x")), op("-", op("-", number("7")), atom("a")))),
			tree(api.NodeAssert, "hive", variable("x"), number("0"), atom("b"), op("*", number("2"), variable("x"))),
			retract(1),
			say(variable("x"), number("3"), atom("c"), op("<=", number("1"), variable("y"))),
			halt()),
		tree(api.NodeType, "q"),
		tree(api.NodeRule, "idle"))
	place(&n, 0)
	return n
}

// P7.1: nodes of each kind, in one program.
func TestEverything(t *testing.T) {
	n := everything()
	met := map[api.NodeKind]int{}
	for _, p := range parts(&n) {
		met[p.Kind]++
	}
	if len(met) != 16 {
		t.Errorf("%v", met)
	}
	mustShow(t, n, `fact hive(x, y);
rule r salience -3 { hive(_, ?x, -5, 'bee); not hive('rule, 12, ?not, _); test not ?x or -7 - 'a; => assert hive(?x, 0, 'b, 2 * ?x); retract 1; say ?x, 3, 'c, 1 <= ?y; halt; }
fact q();
rule idle { => }
`)
}

// P7.1: types, of which each is a line, as they stand.
func TestTypes(t *testing.T) {
	mustShow(t, program(tree(api.NodeType, "t")), "fact t();\n")
	mustShow(t, program(tree(api.NodeType, "t", fields("a")...)), "fact t(a);\n")
	mustShow(t, program(tree(api.NodeType, "t", fields("a", "b")...)), "fact t(a, b);\n")
	mustShow(t, program(tree(api.NodeType, "t", fields("b", "a", "b", "x_1")...)), "fact t(b, a, b, x_1);\n")
	full := strings.Repeat("ab_0", 6)
	mustShow(t, program(tree(api.NodeType, full, fields(full)...)), "fact "+full+"("+full+");\n")
	mustShow(t, program(tree(api.NodeType, "b"), tree(api.NodeType, "a"), rule(), tree(api.NodeType, "b"), rule()), "fact b();\nfact a();\nrule r { => }\nfact b();\nrule r { => }\n")
}

// P7.1: a rule's Num is told, unless it is 0.
func TestSaliences(t *testing.T) {
	for num, want := range map[int]string{0: "", 1: " salience 1", -1: " salience -1", 3: " salience 3", -3: " salience -3", 1001: " salience 1001", far: " salience 2147483647", -far: " salience -2147483647"} {
		mustShow(t, program(ranked(num)), "rule r"+want+" { => }\n")
		mustShow(t, program(ranked(num, tree(api.NodeFact, "p"), halt())), "rule r"+want+" { p(); => halt; }\n")
	}
}

// P7.1: a rule's conditions, each with one blank behind it, its =>, its actions likewise.
func TestRules(t *testing.T) {
	p, not := tree(api.NodeFact, "p"), tree(api.NodeNot, "q")
	mustShow(t, program(rule(p)), "rule r { p(); => }\n")
	mustShow(t, program(rule(not)), "rule r { not q(); => }\n")
	mustShow(t, program(rule(halt())), "rule r { => halt; }\n")
	mustShow(t, program(rule(p, not, p)), "rule r { p(); not q(); p(); => }\n")
	mustShow(t, program(rule(halt(), retract(3), halt())), "rule r { => halt; retract 3; halt; }\n")
	mustShow(t, program(rule(p, not, test(number("1")), halt(), halt())), "rule r { p(); not q(); test 1; => halt; halt; }\n")
	first := map[string]api.Node{"assert p();": tree(api.NodeAssert, "p"), "retract 2;": retract(2), "say 1;": say(number("1")), "halt;": halt()}
	last := map[string]api.Node{"p();": p, "not q();": not, "test 1;": test(number("1"))}
	for a, act := range first {
		for c, cond := range last {
			mustShow(t, program(rule(cond, act)), "rule r { "+c+" => "+a+" }\n")
			mustShow(t, program(rule(cond, cond, act, act)), "rule r { "+c+" "+c+" => "+a+" "+a+" }\n")
		}
	}
}

// P7.1: conditions of facts, there and not there, and what they ask.
func TestConditions(t *testing.T) {
	for kind, ahead := range map[api.NodeKind]string{api.NodeFact: "", api.NodeNot: "not "} {
		for want, args := range map[string][]api.Node{
			"t()":                    nil,
			"t(_)":                   {blank()},
			"t(?x)":                  {variable("x")},
			"t(5)":                   {number("5")},
			"t(-5)":                  {number("-5")},
			"t('b)":                  {atom("b")},
			"t(_, ?x, -5, 'b)":       {blank(), variable("x"), number("-5"), atom("b")},
			"t('b, -5, 5, ?x, _)":    {atom("b"), number("-5"), number("5"), variable("x"), blank()},
			"t(0, 007, -0, -000)":    {number("0"), number("007"), number("-0"), number("-000")},
			"t(" + most + ")":        {number(most)},
			"t(_, -" + most + ", _)": {blank(), number("-" + most), blank()},
		} {
			mustShow(t, program(rule(tree(kind, "t", args...))), "rule r { "+ahead+want+"; => }\n")
		}
	}
}

// P7.1: assertions, of nothing, too, retractions, and what is said.
func TestActions(t *testing.T) {
	one, sum := number("1"), op("+", variable("x"), number("1"))
	for want, act := range map[string]api.Node{
		"assert t()":                    tree(api.NodeAssert, "t"),
		"assert t(1)":                   tree(api.NodeAssert, "t", one),
		"assert t(?x + 1, 'b, 1, -1)":   tree(api.NodeAssert, "t", sum, atom("b"), one, op("-", one)),
		"retract 0":                     retract(0),
		"retract 1":                     retract(1),
		"retract 2147483647":            retract(far),
		"say 1":                         say(one),
		"say ?x + 1, 'b, not 1, 1 or 1": say(sum, atom("b"), op("not", one), op("or", one, one)),
		"halt":                          halt(),
	} {
		mustShow(t, program(rule(act)), "rule r { => "+want+"; }\n")
	}
}

// P7.1: expressions without Kids; their texts are told as they stand.
func TestSingles(t *testing.T) {
	for _, digits := range []string{"0", "1", "12", "007", "000", most, "0" + most} {
		mustSay(t, number(digits), digits)
	}
	for _, name := range []string{"a", "hive", "x_1", "z9_", strings.Repeat("ab_0", 6)} {
		mustSay(t, variable(name), "?"+name)
		mustSay(t, atom(name), "'"+name)
	}
}

// P7.1: words where they may be.
func TestWords(t *testing.T) {
	for _, word := range []string{"fact", "rule", "salience", "not", "test", "assert", "retract", "say", "halt", "and", "or"} {
		mustSay(t, variable(word), "?"+word)
		mustSay(t, atom(word), "'"+word)
		mustSay(t, op("not", op("-", atom(word), variable(word))), "not ('"+word+" - ?"+word+")")
		mustShow(t, program(rule(tree(api.NodeFact, "t", variable(word), atom(word)), tree(api.NodeNot, "t", atom(word), variable(word)))), "rule r { t(?"+word+", '"+word+"); not t('"+word+", ?"+word+"); => }\n")
	}
	mustShow(t, program(tree(api.NodeType, "facts", fields("rules", "nor")...), tree(api.NodeRule, "no", tree(api.NodeFact, "tests"), tree(api.NodeAssert, "says"))), "fact facts(rules, nor);\nrule no { tests(); => assert says(); }\n")
}
