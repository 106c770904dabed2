package show_test

import (
	"slices"
	"strings"
	"testing"

	"ropewalk/api"
	"ropewalk/parse"
)

// below nests x so often, by one.
func below(x api.Node, often int, one func(api.Node) api.Node) api.Node {
	for range often {
		x = one(x)
	}
	return x
}

// P7.1: 30 deep is shown, 31 is not: a program, a rule, an action, and expressions below.
func TestDeep(t *testing.T) {
	x, one := variable("x"), number("1")
	for often, times := 26, strings.Repeat; often <= 28; often++ {
		for want, n := range map[string]api.Node{
			times("-", often) + "?x":                                 below(x, often, func(x api.Node) api.Node { return op("-", x) }),
			times("not ", often) + "?x":                              below(x, often, func(x api.Node) api.Node { return op("not", x) }),
			"?x" + times(" - 1", often):                              below(x, often, func(x api.Node) api.Node { return op("-", x, one) }),
			times("1 - (", often-1) + "1 - ?x" + times(")", often-1): below(x, often, func(x api.Node) api.Node { return op("-", one, x) }),
			times("(", often-1) + "?x = 1" + times(") = 1", often-1): below(x, often, func(x api.Node) api.Node { return op("=", x, one) }),
		} {
			n = program(rule(say(one, n), halt()))
			if often > 26 {
				mustFail(t, n)
				continue
			}
			mustShow(t, n, "rule r { => say 1, "+want+"; halt; }\n")
		}
	}
}

// P7.1: 4096 nodes are shown, 4097 are not.
func TestMany(t *testing.T) {
	for _, many := range []int{4095, 4096, 4097} {
		times := func(s string, less int) string { return strings.Repeat(s, many-less) }
		row := func(n api.Node, less int) []api.Node { return slices.Repeat([]api.Node{n}, many-less) }
		for want, n := range map[string]api.Node{
			times("fact a();\n", 1):                                 program(row(tree(api.NodeType, "a"), 1)...),
			times("rule r { => }\n", 1):                             program(row(rule(), 1)...),
			"fact a(b" + times(", b", 3) + ");\n":                   program(tree(api.NodeType, "a", row(tree(api.NodeField, "b"), 2)...)),
			"rule r { " + times("a(); ", 2) + "=> }\n":              program(rule(row(tree(api.NodeFact, "a"), 2)...)),
			"rule r { => " + times("halt; ", 2) + "}\n":             program(rule(row(halt(), 2)...)),
			"rule r { => say 1" + times(", 1", 4) + "; }\n":         program(rule(say(row(number("1"), 3)...))),
			"rule r { not a(_" + times(", _", 4) + "); => }\n":      program(rule(tree(api.NodeNot, "a", row(blank(), 3)...))),
			"rule r { => assert a('b" + times(", 'b", 4) + "); }\n": program(rule(tree(api.NodeAssert, "a", row(atom("b"), 3)...))),
		} {
			if many > api.MaxNodes {
				mustFail(t, n)
				continue
			}
			if s := shown(t, n); s != want {
				t.Errorf("%d: %.80q .., %d bytes, not %.80q .., %d bytes", many, s, len(s), want, len(want))
			}
			if len(want) <= api.MaxSource {
				mustBeParsed(t, n, want)
			}
		}
	}
}

// P7.1: 4096 nodes of which most are in expressions, one of them wide and deep.
func TestManyOfAnExpression(t *testing.T) {
	x := number("1")
	for range 10 {
		x = op("*", x, x)
	}
	n := program(rule(say(x, op("-", op("-", number("1"), number("2")))), say(slices.Repeat([]api.Node{op("*", number("3"), number("4"))}, 679)...)))
	for len(parts(&n)) < api.MaxNodes {
		n.Kids[0].Kids = append(n.Kids[0].Kids, halt())
	}
	mustBeParsed(t, n, shown(t, n))
	n.Kids[0].Kids = append(n.Kids[0].Kids, halt())
	mustFail(t, n)
}

// P7.1, P7.2: what is as long as a source may be is parsed; one byte more, and it is shown all the same.
func TestLong(t *testing.T) {
	for _, more := range []int{-1, 0, 1, 2, 1 << 16, 1 << 22} {
		digits := strings.Repeat("0", api.MaxSource+more-len("rule r { => say 1; }\n")) + "1"
		n := program(rule(say(number(digits))))
		s := shown(t, n)
		if s != "rule r { => say "+digits+"; }\n" || len(s) != api.MaxSource+more {
			t.Errorf("%d bytes, not %d", len(s), api.MaxSource+more)
		}
		if more <= 0 {
			mustBeParsed(t, n, s)
		} else if _, fault := parse.Program(s); fault != (api.Fault{Err: api.ErrLong}) {
			t.Errorf("%d bytes: %v", len(s), fault)
		}
		args := tree(api.NodeFact, "p", number("-"+digits), number(digits))
		if s := shown(t, program(rule(args))); s != "rule r { p(-"+digits+", "+digits+"); => }\n" {
			t.Errorf("%d bytes of a condition", len(s))
		}
	}
}
