package show_test

import (
	"slices"
	"strings"
	"testing"

	"ropewalk/api"
	"ropewalk/node"
	"ropewalk/parse"
)

// levels are the operators of two, the weakest ones first.
var levels = [][]string{{"or"}, {"and"}, {"=", "!=", "<", "<=", ">", ">="}, {"+", "-"}, {"*"}}

var ofOne = []string{"-", "not"}

const comparisons = 2

func ofTwo() []string { return slices.Concat(levels...) }

func levelOf(text string) int {
	return slices.IndexFunc(levels, func(of []string) bool { return slices.Contains(of, text) })
}

// ahead is what an operator of one is written as.
func ahead(text string) string { return map[string]string{"-": "-", "not": "not "}[text] }

func inBrackets(s string, are bool) string {
	if are {
		return "(" + s + ")"
	}
	return s
}

// P7.1: each operator alone.
func TestOperators(t *testing.T) {
	x, one := variable("x"), number("1")
	for _, o := range ofTwo() {
		mustSay(t, op(o, x, one), "?x "+o+" 1")
		mustSay(t, op(o, atom("a"), x), "'a "+o+" ?x")
	}
	mustSay(t, op("-", x), "-?x")
	mustSay(t, op("-", one), "-1")
	mustSay(t, op("-", atom("a")), "-'a")
	mustSay(t, op("not", x), "not ?x")
	mustSay(t, op("not", one), "not 1")
	mustSay(t, op("not", atom("a")), "not 'a")
}

// P7.1: each operator of two below each other one, on either side, and on both.
func TestOperatorsBelowOthers(t *testing.T) {
	a, b, c, d := variable("a"), number("2"), atom("c"), number("4")
	for _, outer := range ofTwo() {
		for _, inner := range ofTwo() {
			high, low := levelOf(outer), levelOf(inner)
			first := low < high || low == high && high == comparisons
			second := low <= high
			mustSay(t, op(outer, op(inner, a, b), c), inBrackets("?a "+inner+" 2", first)+" "+outer+" 'c")
			mustSay(t, op(outer, a, op(inner, b, c)), "?a "+outer+" "+inBrackets("2 "+inner+" 'c", second))
			mustSay(t, op(outer, op(inner, a, b), op(inner, c, d)), inBrackets("?a "+inner+" 2", first)+" "+outer+" "+inBrackets("'c "+inner+" 4", second))
		}
	}
}

// P7.1: operators of two below those of one, those below these, and those of one below each other.
func TestOperatorsOfOne(t *testing.T) {
	a, b := variable("a"), number("2")
	for _, one := range ofOne {
		for _, two := range ofTwo() {
			mustSay(t, op(one, op(two, a, b)), ahead(one)+"(?a "+two+" 2)")
			mustSay(t, op(two, op(one, a), b), ahead(one)+"?a "+two+" 2")
			mustSay(t, op(two, a, op(one, b)), "?a "+two+" "+ahead(one)+"2")
			for _, other := range ofOne {
				mustSay(t, op(two, op(one, a), op(other, b)), ahead(one)+"?a "+two+" "+ahead(other)+"2")
				mustSay(t, op(one, op(other, op(two, a, b))), ahead(one)+ahead(other)+"(?a "+two+" 2)")
				mustSay(t, op(one, op(two, op(other, a), b)), ahead(one)+"("+ahead(other)+"?a "+two+" 2)")
			}
		}
	}
	mustSay(t, op("-", op("-", a)), "--?a")
	mustSay(t, op("-", op("not", a)), "-not ?a")
	mustSay(t, op("not", op("-", a)), "not -?a")
	mustSay(t, op("not", op("not", a)), "not not ?a")
	mustSay(t, op("-", op("-", op("not", op("-", op("not", op("not", b)))))), "--not -not not 2")
}

// P7.1: brackets by hand.
func TestBrackets(t *testing.T) {
	a, b, c, d := variable("a"), variable("b"), variable("c"), variable("d")
	mustSay(t, op("=", op("=", a, b), c), "(?a = ?b) = ?c")
	mustSay(t, op("=", a, op("=", b, c)), "?a = (?b = ?c)")
	mustSay(t, op("<", op(">=", a, b), op("!=", c, d)), "(?a >= ?b) < (?c != ?d)")
	mustSay(t, op("=", op("+", a, b), op("*", c, d)), "?a + ?b = ?c * ?d")
	mustSay(t, op("<=", op("and", a, b), op("or", c, d)), "(?a and ?b) <= (?c or ?d)")
	mustSay(t, op("not", op("=", a, b)), "not (?a = ?b)")
	mustSay(t, op("=", op("not", a), b), "not ?a = ?b")
	mustSay(t, op("or", op("or", op("or", a, b), c), d), "?a or ?b or ?c or ?d")
	mustSay(t, op("or", a, op("or", b, op("or", c, d))), "?a or (?b or (?c or ?d))")
	mustSay(t, op("or", op("and", a, b), op("and", c, d)), "?a and ?b or ?c and ?d")
	mustSay(t, op("and", op("or", a, b), op("or", c, d)), "(?a or ?b) and (?c or ?d)")
	mustSay(t, op("and", op("=", a, b), op("<", c, d)), "?a = ?b and ?c < ?d")
	mustSay(t, op("+", op("-", op("+", a, b), c), d), "?a + ?b - ?c + ?d")
	mustSay(t, op("-", a, op("+", b, op("-", c, d))), "?a - (?b + (?c - ?d))")
	mustSay(t, op("*", op("*", a, b), op("*", c, d)), "?a * ?b * (?c * ?d)")
	mustSay(t, op("*", op("+", a, b), op("-", c, d)), "(?a + ?b) * (?c - ?d)")
	mustSay(t, op("-", a, op("-", op("-", b))), "?a - --?b")
	mustSay(t, op("-", op("-", op("-", a)), op("*", op("-", b), op("not", c))), "--?a - -?b * not ?c")
	mustSay(t, op("-", op("*", a, op("-", op("+", b, c)))), "-(?a * -(?b + ?c))")
}

// expressions are all of up to deep, of some operators, over singles.
func expressions(deep int, some ...string) []api.Node {
	l := []api.Node{variable("x"), number("1")}
	if deep == 1 {
		return l
	}
	below := expressions(deep-1, some...)
	for _, o := range ofOne {
		for _, a := range below {
			l = append(l, op(o, a))
		}
	}
	for _, o := range some {
		for _, a := range below {
			for _, b := range below {
				l = append(l, op(o, a, b))
			}
		}
	}
	return l
}

// said is the expression that s, as a source's only test, says.
func said(s string) (x api.Node, is bool) {
	n, fault := parse.Program("rule r{test " + s + ";=>}")
	if fault != (api.Fault{}) {
		return api.Node{}, false
	}
	return n.Kids[0].Kids[0].Kids[0], true
}

// closing is where the bracket closes that opens at from.
func closing(s string, from int) int {
	open := 0
	for i := from; ; i++ {
		switch s[i] {
		case '(':
			open++
		case ')':
			open--
		}
		if open == 0 {
			return i
		}
	}
}

// P7.1, P7.2: all brackets are needed: without any pair of them a source says another thing, or nothing. Without blanks it is the same.
func TestBracketsAreNeeded(t *testing.T) {
	met := 0
	for _, x := range slices.Concat(expressions(3, "or", "and", "="), expressions(3, "<", "-", "*"), expressions(2, ofTwo()...), expressions(3, "!=", ">="), expressions(3, "+", "and")) {
		s := shown(t, program(rule(test(x))))
		s = strings.TrimSuffix(strings.TrimPrefix(s, "rule r { test "), "; => }\n")
		if back, is := said(s); !is || !node.Same(back, x) {
			t.Errorf("%q says %v, not %v", s, back, x)
		}
		for from := range len(s) {
			if s[from] != '(' {
				continue
			}
			met++
			to := closing(s, from)
			if back, is := said(s[:from] + " " + s[from+1:to] + " " + s[to+1:]); is && node.Same(back, x) {
				t.Errorf("%q has brackets at %d that it does not need", s, from)
			}
		}
		if strings.Contains(s, "  ") || strings.Contains(s, "( ") || strings.Contains(s, " )") {
			t.Errorf("%q has blanks that say nothing", s)
		}
	}
	if met < 1000 {
		t.Errorf("only %d brackets were met", met)
	}
}
