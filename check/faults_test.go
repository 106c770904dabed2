package check_test

import (
	"fmt"
	"strconv"
	"strings"
	"testing"

	"ropewalk/api"
	"ropewalk/check"
	"ropewalk/parse"
)

// mustFail holds the fault of a source, in which a ^ stands ahead of what the fault is at, against err.
func mustFail(t *testing.T, err api.Errno, marked string) {
	t.Helper()
	at := strings.IndexByte(marked, '^')
	if at < 0 || strings.Count(marked, "^") != 1 {
		t.Fatalf("%q: no place", marked)
	}
	s := marked[:at] + marked[at+1:]
	if r, fault := toldOf(t, s); fault != (api.Fault{Err: err, At: at}) {
		t.Errorf("%.400q: %s, %v, not %v", marked, brief(r), fault, err)
	}
}

// times are n texts, of the numbers from 0 on.
func times(n int, text func(i string) string) string {
	var b strings.Builder
	for i := range n {
		b.WriteString(text(strconv.Itoa(i)))
	}
	return b.String()
}

func typesOf(n int) string {
	return times(n, func(i string) string { return "fact t" + i + "(); " })
}

func rulesOf(n int) string {
	return times(n, func(i string) string { return "rule r" + i + " { => } " })
}

// P8.1: NodeType.
func TestFaultsOfTypes(t *testing.T) {
	mustFail(t, api.ErrTwice, "fact p(); ^fact p();")
	mustFail(t, api.ErrTwice, "fact p(a); ^fact p(b, c);")
	mustFail(t, api.ErrTwice, "fact p(); fact q(); fact s(); ^fact q(); fact p();")
	mustFail(t, api.ErrTwice, "fact p(); rule p { => } ^fact p();")
	mustFail(t, api.ErrTwice, "fact p(); ^fact p(a, a);")
	mustFail(t, api.ErrMany, typesOf(32)+"^fact p();")
	mustFail(t, api.ErrMany, typesOf(32)+"rule r { => } ^fact p(); fact q();")
	mustFail(t, api.ErrMany, rulesOf(3)+typesOf(32)+"^fact p(a, a);")
	mustFail(t, api.ErrMany, "^fact p(a, b, c, d, e, f, g);")
	mustFail(t, api.ErrMany, "fact q(a, b, c, d, e, f); ^fact p(a, b, c, d, e, f, g, h);")
	mustFail(t, api.ErrMany, "^fact p("+strings.Repeat("a, ", 1000)+"a);")
	mustFail(t, api.ErrTwice, typesOf(32)+"^fact t0();")
	mustFail(t, api.ErrTwice, typesOf(32)+"^fact t31(a, b, c, d, e, f, g);")
	mustFail(t, api.ErrTwice, "fact p(); ^fact p(a, b, c, d, e, f, g);")
	mustFail(t, api.ErrMany, "^fact p(a, a, b, c, d, e, f);")
	mustBeRight(t, typesOf(32))
	mustBeRight(t, "rule a { => } "+typesOf(31)+"fact a(a, b, c, d, e, f); rule b { => }")
	mustBeRight(t, "fact p(); rule p { => } fact r();")
}

// P8.1: NodeField.
func TestFaultsOfFields(t *testing.T) {
	mustFail(t, api.ErrTwice, "fact p(a, ^a);")
	mustFail(t, api.ErrTwice, "fact p(a, b, ^a, b);")
	mustFail(t, api.ErrTwice, "fact p(a, b, ^b, a);")
	mustFail(t, api.ErrTwice, "fact p(a, b, c, d, e, ^a);")
	mustFail(t, api.ErrTwice, "fact p(a, b, c, d, e, ^e);")
	mustFail(t, api.ErrTwice, "fact q(a); fact p(b, ^b); fact q();")
	mustFail(t, api.ErrTwice, "fact p(p, ^p);")
	mustBeRight(t, "fact p(a, b); fact q(b, a); fact a(a, p, q);")
	mustBeRight(t, "fact p(a, b, c, d, e, f); fact q(a, b, c, d, e, f);")
}

// P8.1: NodeRule.
func TestFaultsOfRules(t *testing.T) {
	nine := strings.Repeat("test 1; ", 9)
	halts := strings.Repeat("halt; ", 9)
	mustFail(t, api.ErrTwice, "rule r { => } ^rule r { => }")
	mustFail(t, api.ErrTwice, "rule r { => } rule s { => } fact r(); ^rule r { => halt; }")
	mustFail(t, api.ErrTwice, "rule r { => } rule s { => } ^rule s { => } rule r { => }")
	mustFail(t, api.ErrArg, "^rule r salience 1001 { => }")
	mustFail(t, api.ErrArg, "^rule r salience -1001 { => }")
	mustFail(t, api.ErrArg, "rule q { => } ^rule r salience 2147483647 { => }")
	mustFail(t, api.ErrArg, "rule q { => } ^rule r salience -2147483647 { => }")
	mustFail(t, api.ErrMany, rulesOf(64)+"^rule r { => }")
	mustFail(t, api.ErrMany, rulesOf(64)+"fact p(); ^rule r { => } rule s { => }")
	mustFail(t, api.ErrMany, "^rule r { "+nine+"=> }")
	mustFail(t, api.ErrMany, "^rule r { => "+halts+"}")
	mustFail(t, api.ErrMany, "^rule r { "+nine+"=> "+halts+"}")
	mustFail(t, api.ErrMany, "^rule r { "+strings.Repeat("test 1; ", 1000)+"=> }")
	mustFail(t, api.ErrMany, "^rule r { => "+strings.Repeat("halt; ", 1000)+"}")
	// The first one that is named, of several.
	mustFail(t, api.ErrTwice, "rule r { => } ^rule r salience 1001 { => }")
	mustFail(t, api.ErrTwice, "rule r { => } ^rule r { "+nine+"=> }")
	mustFail(t, api.ErrTwice, rulesOf(64)+"^rule r63 { => }")
	mustFail(t, api.ErrArg, "^rule r salience -1001 { "+nine+"=> }")
	mustFail(t, api.ErrArg, "^rule r salience 1001 { => "+halts+"}")
	mustFail(t, api.ErrArg, rulesOf(64)+"^rule r salience 1001 { => }")
	mustFail(t, api.ErrTwice, rulesOf(64)+"^rule r0 salience 1001 { "+nine+"=> "+halts+"}")
	mustBeRight(t, rulesOf(64))
	mustBeRight(t, rulesOf(63)+"fact r(); rule r salience 1000 { => } fact r1();")
	mustBeRight(t, "rule r { "+nine[8:]+"=> "+halts[6:]+"}")
}

// P8.1: all kinds of conditions count, and all of actions, apart.
func TestFaultsOfLongRules(t *testing.T) {
	conditions := []string{"q(); ", "not q(); ", "test 1; "}
	actions := []string{"assert q(); ", "retract 1; ", "say 1; ", "halt; "}
	row := func(n, turn int, of []string) string {
		var b strings.Builder
		for i := range n {
			b.WriteString(of[(i+turn)%len(of)])
		}
		return b.String()
	}
	for turn := range 12 {
		eight, nine := row(8, turn, conditions), row(9, turn, conditions)
		acts, more := row(8, turn, actions), row(9, turn, actions)
		mustBeRight(t, "fact q(); rule r { "+eight+"=> "+acts+"}")
		mustFail(t, api.ErrMany, "fact q(); ^rule r { "+nine+"=> "+acts+"}")
		mustFail(t, api.ErrMany, "fact q(); ^rule r { "+eight+"=> "+more+"}")
		mustFail(t, api.ErrMany, "fact q(); ^rule r { "+nine+"=> }")
		mustFail(t, api.ErrMany, "fact q(); ^rule r { q(); => "+more+"}")
	}
}

// P8.1: NodeFact, NodeNot, NodeAssert.
func TestFaultsOfNamesAndArities(t *testing.T) {
	for _, form := range []string{"%s; =>", "q(); %s; => halt;", "test 1; not q(); %s; =>", "%s; q(); q(1); => assert none();"} {
		for _, ahead := range []string{"", "not "} {
			mustFailIn(t, form, ahead, "1")
		}
	}
	for _, form := range []string{"=> %s;", "q(); => halt; %s;", "=> say 1; %s; assert none(); retract 9;"} {
		mustFailIn(t, form, "assert ", "1 + 1")
	}
	mustFail(t, api.ErrName, "rule p { ^p(); => }")
	mustFail(t, api.ErrName, "fact q(p); rule r { ^p(); => }")
	mustFail(t, api.ErrArity, "rule r { p(1); ^q(1); => } fact q(); fact p(a);")
	mustBeRight(t, "rule r { p(1); not p(2); => assert p(3); } fact p(a);")
}

// mustFailIn puts a wrong fact into a form, ahead of which something stands.
func mustFailIn(t *testing.T, form, ahead, x string) {
	t.Helper()
	put := func(fact string) string { return around(fmt.Sprintf(form, "^"+ahead+fact)) }
	mustFail(t, api.ErrName, put("none()"))
	mustFail(t, api.ErrName, put("r()"))
	mustFail(t, api.ErrName, put("a("+x+")"))
	mustFail(t, api.ErrName, put("none("+x+", ?u)"))
	mustFail(t, api.ErrArity, put("p()"))
	mustFail(t, api.ErrArity, put("p("+x+")"))
	mustFail(t, api.ErrArity, put("p("+x+", "+x+", "+x+")"))
	mustFail(t, api.ErrArity, put("q("+x+")"))
	mustFail(t, api.ErrArity, put("q(?u)"))
	mustFail(t, api.ErrArity, put("p(?u, ?u, ?u, ?u, ?u, ?u, ?u, ?u)"))
}

// P8.1: NodeVar, that is not bound ahead.
func TestFaultsOfVariables(t *testing.T) {
	for _, body := range []string{
		"not p(^?x, 1); =>", "not p(_, ^?x); =>", "not p(^?x, ?x); =>", "not p(^?x, ?y); =>", "not p(1, ^?y); p(?y, 1); =>", "p(?x, _); not p(?x, ^?y); =>", "p(?x, _); not p(^?y, ?x); p(?y, _); =>",
		"not q(); test ^?x; =>", "test ^?x; p(?x, 1); =>", "p(?x, ?y); test ^?z; =>", "p(?x, ?y); test ?x = ?y and not (1 + ^?z) < 3; p(?z, 1); =>", "test - ^?x; =>", "test not ^?x; =>", "test 1 + (2 * (3 - ^?x)); =>",
		"=> assert p(^?x, 1);", "=> assert p(1, ^?x);", "p(?x, ?y); => assert p(?x, ^?z);", "p(?x, ?y); => assert p(?x + 1, ?y - ^?z);", "p(?x, _); => say ?x; assert p(^?u, ?v);",
		"=> say ^?x;", "=> say 1, ^?x;", "p(?x, _); => say ?x, ?x, ^?y, ?z;", "p(?x, _); => say ?x + ?x * ^?y;", "=> say ^?p, 1;", "p(?x, _); => say 'xx, ^?xx;",
		"=> say ^?x + ?y;", "=> say ^?x > ?y;", "=> say ^?x >= ?y;", "=> say 1 > ^?x;", "=> say ^?x > 1;", "p(?x, _); => say ?x > ^?y;", "p(?x, _); => say ^?y >= ?x;", "=> say (1 > ^?x) > ?y;", "=> say (^?x >= ?y) > (?z < ?w);",
	} {
		mustFail(t, api.ErrUnbound, around(body))
	}
	// What one rule binds is not bound in another one.
	mustFail(t, api.ErrUnbound, "fact p(a); rule r { p(?x); => } rule s { => say ^?x; }")
	mustFail(t, api.ErrUnbound, "fact p(a); rule r { p(?x); => } rule s { not p(^?x); => }")
	mustFail(t, api.ErrUnbound, "fact p(a); rule r { => say ^?x; } rule s { p(?x); => }")
	mustFail(t, api.ErrUnbound, "fact x(x); rule x { not x('x); => say 'x, ^?x; }")
}

// vars are so many variables, from that one on, as conditions of six each.
func vars(from, many int) string {
	var b strings.Builder
	for i := range many {
		b.WriteString([]string{"s(", ", "}[min(i%6, 1)] + "?v" + strconv.Itoa(from+i))
		if i%6 == 5 || i == many-1 {
			b.WriteString(strings.Repeat(", _", 5-i%6) + "); ")
		}
	}
	return b.String()
}

// P8.1: NodeVar, of which as many as may be are bound.
func TestFaultsOfManyVariables(t *testing.T) {
	const six = "fact s(a, b, c, d, e, f); "
	for _, s := range []string{
		vars(0, 15) + "s(^?w, _, _, _, _, _); ", vars(0, 12) + "s(?v12, ?v13, ?v14, ?v15, ?v12, ?v0); ", vars(0, 16), vars(0, 16) + "s(?v0, ?v15, ?v7, ?v7, _, 1); not s(?v15, ?v0, _, _, _, _); test ?v15; ",
	} {
		r := mustBeRight(t, six+"rule r { "+strings.ReplaceAll(s, "^", "")+"=> say ?v0, ?v14; }")
		if r.Rules[0].Vars != api.MaxVars {
			t.Errorf("%q: %d variables", s, r.Rules[0].Vars)
		}
	}
	mustFail(t, api.ErrMany, six+"rule r { "+vars(0, 16)+"s(^?w, _, _, _, _, _); => }")
	mustFail(t, api.ErrMany, six+"rule r { "+vars(0, 16)+"s(_, ?v0, 1, ?v15, ^?w, ?x); => say ?none; }")
	mustFail(t, api.ErrMany, six+"rule r { "+vars(0, 12)+"s(?v12, ?v13, ?v14, ?v15, ^?v16, ?v17); => }")
	mustFail(t, api.ErrMany, six+"rule r { => } rule q { "+strings.Replace(vars(0, 48), "?v16", "^?v16", 1)+"=> }")
	mustFail(t, api.ErrUnbound, six+"rule r { "+vars(0, 16)+"not s(^?w, _, _, _, _, _); => }")
	mustFail(t, api.ErrUnbound, six+"rule r { "+vars(0, 16)+"test ^?w; s(?w, _, _, _, _, _); => }")
	mustFail(t, api.ErrUnbound, six+"rule r { "+vars(0, 16)+"=> say ^?w; }")
	// Each rule has as many.
	mustBeRight(t, six+"rule r { "+vars(0, 16)+"=> } rule q { "+vars(8, 16)+"=> say ?v23; }")
}

// P8.1: NodeRetract.
func TestFaultsOfRetractions(t *testing.T) {
	mustFail(t, api.ErrWhich, "rule r { => ^retract 0; }")
	mustFail(t, api.ErrWhich, "rule r { => ^retract 1; }")
	mustFail(t, api.ErrWhich, "rule r { => ^retract 2147483647; }")
	for _, conditions := range []string{"q(); ", "not q(); q(); ", "test 1; q(); not q(); "} {
		mustBeRight(t, around(conditions+"=> retract 1;"))
		mustFail(t, api.ErrWhich, around(conditions+"=> ^retract 0;"))
		mustFail(t, api.ErrWhich, around(conditions+"=> ^retract 2;"))
		mustFail(t, api.ErrWhich, around(conditions+"=> retract 1; halt; retract 1; ^retract 2; retract 0;"))
	}
	for _, conditions := range []string{"not q(); ", "test 1; ", "not q(); test 1; not q(); "} {
		mustFail(t, api.ErrWhich, around(conditions+"=> ^retract 1;"))
	}
	for many := range 9 {
		conditions := strings.Repeat("q(); ", many) + strings.Repeat("not q(); ", (8-many)/2) + strings.Repeat("test 1; ", (8-many)-(8-many)/2)
		for which := 1; which <= many; which++ {
			mustBeRight(t, around(conditions+"=> retract "+strconv.Itoa(which)+";"))
		}
		mustFail(t, api.ErrWhich, around(conditions+"=> ^retract 0;"))
		mustFail(t, api.ErrWhich, around(conditions+"=> ^retract "+strconv.Itoa(many+1)+";"))
	}
	// What one rule asks for is not another one's.
	mustFail(t, api.ErrWhich, "fact q(); rule r { q(); => retract 1; } rule s { => ^retract 1; }")
	mustFail(t, api.ErrWhich, "fact q(); rule r { q(); q(); => retract 2; } rule s { q(); => ^retract 2; }")
}

// P8.1: all types are looked at ahead of all rules, one after the other.
func TestTypesAheadOfRules(t *testing.T) {
	mustFail(t, api.ErrTwice, "rule r { none(); => } fact p(); ^fact p();")
	mustFail(t, api.ErrTwice, "rule r salience 1001 { => } fact p(a, ^a);")
	mustFail(t, api.ErrMany, "rule r { => } rule r { => } ^fact p(a, b, c, d, e, f, g);")
	mustFail(t, api.ErrMany, "rule r { => say ?x; } "+typesOf(32)+"^fact p();")
	mustFail(t, api.ErrTwice, "fact p(a, ^a); fact p(); fact q(b, b);")
	mustFail(t, api.ErrMany, "^fact p(a, a, a, a, a, a, a); fact q(b, b); fact q();")
	mustFail(t, api.ErrTwice, typesOf(31)+"fact p(a, b, ^b); fact q(); fact t0();")
	mustFail(t, api.ErrName, "rule r { ^none(); => } rule r { => }")
	mustFail(t, api.ErrWhich, "rule r { => ^retract 1; } rule q salience 1001 { => }")
	mustFail(t, api.ErrTwice, "rule r { => } ^rule r { none(); => }")
	mustFail(t, api.ErrArg, "^rule r salience 1001 { none(); => } rule q { none(); => }")
	mustFail(t, api.ErrUnbound, rulesOf(63)+"rule q { => say ^?x; } rule p { => } rule s { => }")
}

// part is a wrong part of a rule, with a ^ where its fault is.
type part struct {
	err  api.Errno
	text string
}

// wrongConditions and wrongActions are such that what is ahead of them makes no difference.
var wrongConditions = []part{
	{api.ErrName, "^none(?x);"}, {api.ErrName, "^not none();"}, {api.ErrArity, "^p(?x);"}, {api.ErrArity, "^q(1, 2);"}, {api.ErrArity, "^not p(1, 2, 3);"},
	{api.ErrUnbound, "not p(1, ^?u);"}, {api.ErrUnbound, "not p(^?u, ?v);"}, {api.ErrUnbound, "test 1 + ^?u;"}, {api.ErrUnbound, "test ^?u > ?v;"}, {api.ErrUnbound, "test not (1 or -^?u);"},
}

var wrongActions = []part{
	{api.ErrName, "^assert none(?u);"}, {api.ErrArity, "^assert p(?u);"}, {api.ErrArity, "^assert q(1);"}, {api.ErrUnbound, "assert p(^?u, ?v);"}, {api.ErrUnbound, "assert p(1, 1 > ^?u);"},
	{api.ErrUnbound, "say ^?u, ?v;"}, {api.ErrUnbound, "say 1, - ^?u;"}, {api.ErrWhich, "^retract 0;"}, {api.ErrWhich, "^retract 9;"},
}

// P8.1: of two faults in one rule, the one that stands ahead.
func TestFirstOfTwoParts(t *testing.T) {
	right := []string{"", "p(?x, ?y); ", "not q(); "}
	for _, first := range wrongConditions {
		for _, between := range right {
			for _, other := range wrongConditions {
				mustFail(t, first.err, around("q(); "+first.text+" "+between+unmarked(other)+" =>"))
			}
			for _, other := range wrongActions {
				mustFail(t, first.err, around(first.text+" "+between+"=> halt; "+unmarked(other)))
			}
		}
	}
	for _, first := range wrongActions {
		for _, between := range []string{"", "halt; ", "assert q(); "} {
			for _, other := range wrongActions {
				mustFail(t, first.err, around("p(?x, ?y); => "+first.text+" "+between+unmarked(other)))
			}
		}
	}
}

func unmarked(p part) string { return strings.ReplaceAll(p.text, "^", "") }

// P8.1: a rule's own faults stand ahead of its parts', those of a rule ahead of the next one's.
func TestNodeAheadOfKids(t *testing.T) {
	for _, p := range append(wrongConditions, wrongActions...) {
		body := unmarked(p) + " =>"
		if strings.Contains(" assert say retract ", strings.Trim(strings.Fields(unmarked(p))[0], ";")) {
			body = "=> " + unmarked(p)
		}
		mustFail(t, api.ErrArg, "fact p(a, b); fact q(); ^rule r salience 1001 { "+body+" }")
		mustFail(t, api.ErrTwice, "fact p(a, b); rule r { => } fact q(); ^rule r { "+body+" }")
		mustFail(t, api.ErrMany, rulesOf(64)+"fact p(a, b); fact q(); ^rule r { "+body+" }")
		nine := "^rule r { " + strings.Repeat("q(); ", 8) + body + " }"
		if body[0] == '=' {
			nine = "^rule r { " + body + strings.Repeat(" halt;", 8) + " }"
		}
		mustFail(t, api.ErrMany, "fact p(a, b); fact q(); "+nine)
		at := strings.Index(p.text, "^")
		marked := strings.Replace(body, unmarked(p), p.text[:at]+"^"+p.text[at+1:], 1)
		mustFail(t, p.err, "fact p(a, b); fact q(); rule r { "+marked+" } rule r salience 1001 { => }")
		mustFail(t, p.err, "rule r { "+marked+" } fact p(a, b); fact q(); rule s { none(); => }")
	}
}

// P8.3: a source's fault is that of scan or parse, if there is one, whatever Make would tell of what is ahead of it.
func TestFaultsOfSources(t *testing.T) {
	long := strings.Repeat("-", 27)
	for s, want := range map[string]api.Fault{
		strings.Repeat(" ", api.MaxSource+1):       {Err: api.ErrLong},
		"!":                                        {Err: api.ErrByte},
		"fact p(); fact p(); $":                    {Err: api.ErrByte, At: 20},
		"rule r { none(); => } 1a":                 {Err: api.ErrToken, At: 22},
		"fact p(a a);":                             {Err: api.ErrSyntax, At: 9},
		"fact p(); fact p(); fact":                 {Err: api.ErrSyntax, At: 24},
		"fact fact();":                             {Err: api.ErrSyntax, At: 5},
		"rule r salience 2147483648 { => }":        {Err: api.ErrSyntax, At: 16},
		"rule r { => retract -1; }":                {Err: api.ErrSyntax, At: 20},
		"rule r { none(); => say " + long + "1; }": {Err: api.ErrDeep, At: 24 + 27},
		strings.Repeat("fact p(a,a,a);", 1024):     {Err: api.ErrMany},
	} {
		for range 2 {
			if r, fault := check.Source(s); fault != want || !alike(r, api.Rules{}) {
				t.Errorf("%.100q: %s, %v, not %v", s, brief(r), fault, want)
			}
		}
		if _, fault := parse.Program(s); fault != want {
			t.Errorf("%.100q is parsed with %v", s, fault)
		}
	}
	mustBeRight(t, strings.Repeat(" ", api.MaxSource-13)+"rule r { => }")
	mustBeRight(t, "rule r { => say "+long[1:]+"1; }")
	mustFail(t, api.ErrTwice, "fact p(); # ok\n\t^fact p();")
}
