package parse_test

import (
	"reflect"
	"strconv"
	"strings"
	"testing"

	"ropewalk/api"
	"ropewalk/node"
	"ropewalk/parse"
)

const (
	most = "9223372036854775807"
	far  = 1<<31 - 1
)

// everything has all that there is.
const everything = `fact hive(x, y); fact q();
rule up salience -3 {
	hive(_, ?x, -5, 'bee); not hive('rule, 12, ?not, _); q(); not q();
	test not ?x or - - 7 - 'a != 3 * (?x + ?y) and 1 <= 2; # comes last
=>
	assert hive(?x, 0); assert q(); retract 1; say ?x, (3), 'c = 1; halt;
}
rule idle salience 7 { => }`

// kinds are the nodes' kinds, by their numbers.
var kinds = []string{"none", "program", "fact", "field", "rule", "cond", "not", "test", "assert", "retract", "say", "halt", "any", "var", "num", "atom", "op"}

// shown is n as a text: of each node its kind, its place, and what it has of Text, Num and Kids.
func shown(n api.Node) string {
	s := kinds[n.Kind] + "@" + strconv.Itoa(n.At)
	if n.Text != "" {
		s += " " + n.Text
	}
	if n.Num != 0 {
		s += " #" + strconv.Itoa(n.Num)
	}
	if len(n.Kids) == 0 {
		return s
	}
	var kids []string
	for _, k := range n.Kids {
		kids = append(kids, shown(k))
	}
	return s + " [" + strings.Join(kids, ", ") + "]"
}

// parsed is what is told of s, each time, apart in memory, if it is a program.
func parsed(t *testing.T, s string) api.Node {
	t.Helper()
	n, fault := parse.Program(s)
	if fault != (api.Fault{}) {
		t.Errorf("%.200q: %v", s, fault)
		return api.Node{}
	}
	before := shown(n)
	for _, p := range parts(&n) {
		p.Text, p.Num, p.At = "!", -7, -7
		for i := range p.Kids[:cap(p.Kids)] {
			p.Kids[:cap(p.Kids)][i].Num = -7
		}
	}
	n, fault = parse.Program(s)
	if fault != (api.Fault{}) || shown(n) != before {
		t.Errorf("%.200q: then %v, %v", s, shown(n), fault)
	}
	return n
}

// mustTell parses s, of which want, as shown tells it, must be told, which is right.
func mustTell(t *testing.T, s, want string) {
	t.Helper()
	n := parsed(t, s)
	if got := shown(n); got != want {
		t.Errorf("%.200q:\n%s, not\n%s", s, got, want)
	}
	if !node.Right(n) {
		t.Errorf("%.200q: what is told is not right", s)
	}
}

// mustFail parses s, of which that fault, and nothing else, must be told, each time.
func mustFail(t *testing.T, s string, err api.Errno, at int) {
	t.Helper()
	for range 2 {
		if n, fault := parse.Program(s); !reflect.DeepEqual(n, api.Node{}) || fault != (api.Fault{Err: err, At: at}) {
			t.Errorf("%.200q: %v, %v, not %d at %d", s, shown(n), fault, int(err), at)
		}
	}
}

// parts points to n and to all below.
func parts(n *api.Node) []*api.Node {
	l := []*api.Node{n}
	for i := range n.Kids {
		l = append(l, parts(&n.Kids[i])...)
	}
	return l
}

// P6.1: the chapter's examples.
func TestExamples(t *testing.T) {
	mustTell(t, "rule r salience -3 { hive(?x, -5); => say 1 + 2 * ?x; }",
		"program@0 [rule@0 r #-3 [cond@21 hive [var@26 x, num@30 -5], say@38 [op@42 + [num@42 1, op@46 * [num@46 2, var@50 x]]]]]")
	mustFail(t, "fact a(b c);", api.ErrSyntax, 9)
	mustFail(t, "rule r { halt; }", api.ErrSyntax, 9)
	mustFail(t, "rule r { => retract 2147483648; }", api.ErrSyntax, 20)
	mustFail(t, "rule r { => say 1 = 2 = 3; }", api.ErrSyntax, 22)
}

// P6.1: a source of nothing is a program of nothing, at 0.
func TestNothing(t *testing.T) {
	for _, s := range []string{"", " ", "\n\t\r", "# fact", "\n# rule r {\n"} {
		mustTell(t, s, "program@0")
	}
}

// P6.1: what is told of each decl.
func TestDeclarations(t *testing.T) {
	mustTell(t, "fact q();", "program@0 [fact@0 q]")
	mustTell(t, " fact hive ( x ) ;", "program@0 [fact@1 hive [field@13 x]]")
	mustTell(t, "\nfact hive(x,y, x);", "program@0 [fact@1 hive [field@11 x, field@13 y, field@16 x]]")
	mustTell(t, "rule r{=>}", "program@0 [rule@0 r]")
	mustTell(t, "#\n rule r { => }", "program@0 [rule@3 r]")
	mustTell(t, "rule r salience 12 { => }", "program@0 [rule@0 r #12]")
	mustTell(t, "rule r salience-12{=>}", "program@0 [rule@0 r #-12]")
	mustTell(t, "rule r{=>}fact q();rule r{=>}fact q();", "program@0 [rule@0 r, fact@10 q, rule@19 r, fact@29 q]")
}

// inRule is a rule of those conditions and actions, 8 bytes ahead of them.
func inRule(body string) string { return "rule r{ " + body + "}" }

// mustMake parses a rule's body, of whose parts want must be told.
func mustMake(t *testing.T, body, want string) {
	t.Helper()
	mustTell(t, inRule(body), "program@0 [rule@0 r ["+want+"]]")
}

// P6.1: what is told of each cond, and each arg.
func TestConditions(t *testing.T) {
	mustMake(t, "p(); =>", "cond@8 p")
	mustMake(t, "not p(); =>", "not@8 p")
	mustMake(t, "p(_); =>", "cond@8 p [any@10]")
	mustMake(t, "p(?x); =>", "cond@8 p [var@10 x]")
	mustMake(t, "p(5); =>", "cond@8 p [num@10 5]")
	mustMake(t, "p(-5); =>", "cond@8 p [num@10 -5]")
	mustMake(t, "p('b); =>", "cond@8 p [atom@10 b]")
	mustMake(t, "p(- #\n5); =>", "cond@8 p [num@10 -5]")
	mustMake(t, "p(_,?x,007,-000,'b,_); =>", "cond@8 p [any@10, var@12 x, num@15 007, num@19 -000, atom@24 b, any@27]")
	mustMake(t, "not p( _, ?x,7 ,-0, 'b); =>", "not@8 p [any@15, var@18 x, num@21 7, num@24 -0, atom@28 b]")
	mustMake(t, "p("+most+", -"+most+"); =>", "cond@8 p [num@10 "+most+", num@31 -"+most+"]")
	mustMake(t, "p('rule, ?or, 'not, ?fact); =>", "cond@8 p [atom@10 rule, var@17 or, atom@22 not, var@28 fact]")
	mustMake(t, "test 1; =>", "test@8 [num@13 1]")
	mustMake(t, "test not ?p; =>", "test@8 [op@13 not [var@17 p]]")
	mustMake(t, "test ?x; p(); not q(); test 1; p(); =>", "test@8 [var@13 x], cond@17 p, not@22 q, test@31 [num@36 1], cond@39 p")
}

// P6.1: what is told of each act.
func TestActions(t *testing.T) {
	mustMake(t, "=> assert p();", "assert@11 p")
	mustMake(t, "=> assert p(?x);", "assert@11 p [var@20 x]")
	mustMake(t, "=> assert p(?x + 1, -5, (7),'b);", "assert@11 p [op@20 + [var@20 x, num@25 1], op@28 - [num@29 5], num@33 7, atom@36 b]")
	mustMake(t, "=> retract 1;", "retract@11 #1")
	mustMake(t, "=> retract 0;", "retract@11")
	mustMake(t, "=> say 1;", "say@11 [num@15 1]")
	mustMake(t, "=> say -1 , 'a,?x;", "say@11 [op@15 - [num@16 1], atom@20 a, var@23 x]")
	mustMake(t, "=> halt;", "halt@11")
	mustMake(t, "=> halt; retract 2; say 1; assert p(); halt;", "halt@11, retract@17 #2, say@28 [num@32 1], assert@35 p, halt@47")
	mustMake(t, "p(); => halt;", "cond@8 p, halt@16")
}

// P6.1: all that there is, in one source.
func TestEverything(t *testing.T) {
	n := parsed(t, everything)
	met := map[api.NodeKind]int{}
	for _, p := range parts(&n) {
		met[p.Kind]++
	}
	if len(met) != 16 {
		t.Errorf("%v", met)
	}
	mustTell(t, everything, "program@0 ["+strings.Join([]string{
		"fact@0 hive [field@10 x, field@13 y]", "fact@17 q",
		"rule@27 up #-3 [" + strings.Join([]string{
			"cond@50 hive [any@55, var@58 x, num@62 -5, atom@66 bee]",
			"not@73 hive [atom@82 rule, num@89 12, var@93 not, any@99]",
			"cond@103 q", "not@108 q",
			"test@118 [op@123 or [op@123 not [var@127 x], op@133 and [op@133 != [op@133 - [op@133 - [op@135 - [num@137 7]], atom@141 a], op@147 * [num@147 3, op@152 + [var@152 x, var@157 y]]], op@165 <= [num@165 1, num@170 2]]]]",
			"assert@190 hive [var@202 x, num@206 0]", "assert@210 q", "retract@222 #1",
			"say@233 [var@237 x, num@242 3, op@246 = [atom@246 c, num@251 1]]", "halt@254"}, ", ") + "]",
		"rule@262 idle #7"}, ", ")+"]")
}

// P6.1: a salience says at most 2^31 - 1, with a - ahead or without.
func TestSaliences(t *testing.T) {
	for text, num := range map[string]int{"0": 0, "00": 0, "1": 1, "007": 7, "1000": 1000, "1001": 1001, "2147483646": far - 1, "2147483647": far, "0002147483647": far} {
		for minus, sign := range map[string]int{"": 1, "-": -1, "- ": -1, "-#\n": -1} {
			n := parsed(t, "rule r salience "+minus+text+" { => }")
			if len(n.Kids) != 1 || n.Kids[0].Num != sign*num || !node.Right(n) {
				t.Errorf("%s%s: %v", minus, text, shown(n))
			}
		}
	}
	for _, text := range []string{"2147483648", "02147483648", "2147483649", "4294967295", "4294967296", "4294967297", most} {
		mustFail(t, "rule r salience "+text+" { => }", api.ErrSyntax, 16)
		mustFail(t, "rule r salience -"+text+" { => }", api.ErrSyntax, 17)
		mustFail(t, "rule r salience -  "+text, api.ErrSyntax, 19)
	}
	mustFail(t, "rule r salience 9223372036854775808 { => }", api.ErrToken, 16)
	mustFail(t, "rule r salience --1 { => }", api.ErrSyntax, 17)
	mustFail(t, "rule r salience +1 { => }", api.ErrSyntax, 16)
	mustFail(t, "rule r salience { => }", api.ErrSyntax, 16)
	mustFail(t, "rule r salience - { => }", api.ErrSyntax, 18)
	mustFail(t, "rule r salience ?x { => }", api.ErrSyntax, 16)
	mustFail(t, "rule r salience (1) { => }", api.ErrSyntax, 16)
	mustFail(t, "rule r salience 1 salience 1 { => }", api.ErrSyntax, 18)
	mustFail(t, "rule salience 1 r { => }", api.ErrSyntax, 5)
	mustFail(t, "rule r 1 { => }", api.ErrSyntax, 7)
}

// P6.1: so does a retract, without a -. Other numbers are not held against that.
func TestRetracts(t *testing.T) {
	for text, num := range map[string]int{"0": 0, "1": 1, "007": 7, "2147483646": far - 1, "2147483647": far, "0002147483647": far} {
		n := parsed(t, inRule("=> retract "+text+";"))
		if len(n.Kids) != 1 || len(n.Kids[0].Kids) != 1 || n.Kids[0].Kids[0].Num != num || !node.Right(n) {
			t.Errorf("%s: %v", text, shown(n))
		}
		mustFail(t, inRule("=> retract -"+text+";"), api.ErrSyntax, 19)
	}
	for _, text := range []string{"2147483648", "02147483648", "4294967296", "4294967297", most} {
		mustFail(t, inRule("=> retract "+text+";"), api.ErrSyntax, 19)
		mustFail(t, inRule("=> retract "+text), api.ErrSyntax, 19)
		n := parsed(t, inRule("p("+text+"); test "+text+"; => say "+text+"; assert p("+text+");"))
		for _, p := range parts(&n) {
			if len(p.Kids) == 0 && (p.Kind != api.NodeNum || p.Text != text) {
				t.Errorf("%s: %v", text, shown(n))
			}
		}
	}
	for _, text := range []string{"?x", "'a", "(1)", "a", "1, 2", "1 + 2", "", "_"} {
		_, fault := parse.Program(inRule("=> retract " + text + ";"))
		if fault.Err != api.ErrSyntax {
			t.Errorf("%s: %v", text, fault)
		}
	}
}

// P6.1: where brackets stand around the whole of an expression, they do not count for its place; around a part they do.
func TestBrackets(t *testing.T) {
	say := func(x, want string) {
		t.Helper()
		mustMake(t, "=>say "+x+";", "say@10 ["+want+"]")
	}
	say("1", "num@14 1")
	say("(1)", "num@15 1")
	say("((1))", "num@16 1")
	say("( # (\n( ?x ) )", "var@22 x")
	say("1 + 2", "op@14 + [num@14 1, num@18 2]")
	say("(1 + 2)", "op@15 + [num@15 1, num@19 2]")
	say("((1 + 2))", "op@16 + [num@16 1, num@20 2]")
	say("(1) + 2", "op@14 + [num@15 1, num@20 2]")
	say("((1) + 2)", "op@15 + [num@16 1, num@21 2]")
	say("((1)) + 2", "op@14 + [num@16 1, num@22 2]")
	say("1 + (2)", "op@14 + [num@14 1, num@19 2]")
	say("(1 + 2) * 3", "op@14 * [op@15 + [num@15 1, num@19 2], num@24 3]")
	say("((1 + 2) * 3)", "op@15 * [op@16 + [num@16 1, num@20 2], num@25 3]")
	say("3 * (1 + 2)", "op@14 * [num@14 3, op@19 + [num@19 1, num@23 2]]")
	say("(1) + 2 - 3", "op@14 - [op@14 + [num@15 1, num@20 2], num@24 3]")
	say("1 - (2 - 3)", "op@14 - [num@14 1, op@19 - [num@19 2, num@23 3]]")
	say("(1 = 2) = 3", "op@14 = [op@15 = [num@15 1, num@19 2], num@24 3]")
	say("1 = (2 = 3)", "op@14 = [num@14 1, op@19 = [num@19 2, num@23 3]]")
	say("-(1)", "op@14 - [num@16 1]")
	say("(-1)", "op@15 - [num@16 1]")
	say("-(-1)", "op@14 - [op@16 - [num@17 1]]")
	say("not (1 or 2)", "op@14 not [op@19 or [num@19 1, num@24 2]]")
	say("(not 1) or 2", "op@14 or [op@15 not [num@19 1], num@25 2]")
	say("(1), (2)", "num@15 1, num@20 2")
}

// P6.1: brackets that are not closed, closed twice, or of nothing.
func TestBracketsThatAreNone(t *testing.T) {
	say := func(x string, at int) {
		t.Helper()
		mustFail(t, "rule r{=>say "+x+";}", api.ErrSyntax, 13+at)
	}
	say("(1", 2)
	say("((1)", 4)
	say("(1 + 2", 6)
	say("(1 + (2 * 3)", 12)
	say("1)", 1)
	say("(1))", 3)
	say("(1 + 2)) * 3", 7)
	say(")", 0)
	say("()", 1)
	say("(())", 2)
	say("1 + ()", 5)
	say("(1, 2)", 2)
	say("(1)(2)", 3)
	say("1 (2)", 2)
	say("(1;)", 2)
	mustFail(t, "rule r{=>say (1", api.ErrSyntax, 15)
	mustFail(t, "fact a((b));", api.ErrSyntax, 7)
	mustFail(t, "rule r{p((1));=>}", api.ErrSyntax, 9)
	mustFail(t, "rule (r){=>}", api.ErrSyntax, 5)
}

// P6.1: rows that end with a comma, begin with one, or are of nothing.
func TestRows(t *testing.T) {
	mustFail(t, "fact a(b,);", api.ErrSyntax, 9)
	mustFail(t, "fact a(,);", api.ErrSyntax, 7)
	mustFail(t, "fact a(,b);", api.ErrSyntax, 7)
	mustFail(t, "fact a(b,,b);", api.ErrSyntax, 9)
	mustFail(t, "fact a(1);", api.ErrSyntax, 7)
	mustFail(t, "fact a(?b);", api.ErrSyntax, 7)
	mustFail(t, "fact a(rule);", api.ErrSyntax, 7)
	mustFail(t, "rule r{p(1,);=>}", api.ErrSyntax, 11)
	mustFail(t, "rule r{p(,1);=>}", api.ErrSyntax, 9)
	mustFail(t, "rule r{p(1 2);=>}", api.ErrSyntax, 11)
	mustFail(t, "rule r{p(a);=>}", api.ErrSyntax, 9)
	mustFail(t, "rule r{p(1+2);=>}", api.ErrSyntax, 10)
	mustFail(t, "rule r{p(--1);=>}", api.ErrSyntax, 10)
	mustFail(t, "rule r{p(-?x);=>}", api.ErrSyntax, 10)
	mustFail(t, "rule r{p(-_);=>}", api.ErrSyntax, 10)
	mustFail(t, "rule r{p(not 1);=>}", api.ErrSyntax, 9)
	mustFail(t, "rule r{not not p();=>}", api.ErrSyntax, 11)
	mustFail(t, "rule r{not test 1;=>}", api.ErrSyntax, 11)
	mustFail(t, "rule r{test;=>}", api.ErrSyntax, 11)
	mustFail(t, "rule r{test 1, 2;=>}", api.ErrSyntax, 13)
	mustFail(t, "rule r{test _;=>}", api.ErrSyntax, 12)
	mustFail(t, "rule r{test p();=>}", api.ErrSyntax, 12)
	mustFail(t, "rule r{=>say;}", api.ErrSyntax, 12)
	mustFail(t, "rule r{=>say 1,;}", api.ErrSyntax, 15)
	mustFail(t, "rule r{=>say ,1;}", api.ErrSyntax, 13)
	mustFail(t, "rule r{=>say 1 2;}", api.ErrSyntax, 15)
	mustFail(t, "rule r{=>say _;}", api.ErrSyntax, 13)
	mustFail(t, "rule r{=>assert p(1,);}", api.ErrSyntax, 20)
	mustFail(t, "rule r{=>assert p(_);}", api.ErrSyntax, 18)
	mustFail(t, "rule r{=>assert p;}", api.ErrSyntax, 17)
	mustFail(t, "rule r{=>assert not p();}", api.ErrSyntax, 16)
	mustFail(t, "rule r{=>halt 1;}", api.ErrSyntax, 14)
	mustFail(t, "rule r{=>halt}", api.ErrSyntax, 13)
	mustFail(t, "rule r{=>;}", api.ErrSyntax, 9)
	mustFail(t, "rule r{;=>}", api.ErrSyntax, 7)
	mustFail(t, "rule r{=>halt;p();}", api.ErrSyntax, 14)
	mustFail(t, "rule r{=>=>}", api.ErrSyntax, 9)
	mustFail(t, "rule r{}", api.ErrSyntax, 7)
	mustFail(t, "rule r{=>};", api.ErrSyntax, 10)
	mustFail(t, "rule r{=>}}", api.ErrSyntax, 10)
	mustFail(t, "rule {=>}", api.ErrSyntax, 5)
	mustFail(t, "rule 'r{=>}", api.ErrSyntax, 5)
	mustFail(t, "rule fact{=>}", api.ErrSyntax, 5)
	mustFail(t, "fact a()", api.ErrSyntax, 8)
	mustFail(t, "fact a;", api.ErrSyntax, 6)
	mustFail(t, "fact a();;", api.ErrSyntax, 9)
	mustFail(t, "fact a(b) fact c();", api.ErrSyntax, 10)
	mustFail(t, ";", api.ErrSyntax, 0)
	mustFail(t, " a();", api.ErrSyntax, 1)
	mustFail(t, "'fact a();", api.ErrSyntax, 0)
	mustFail(t, "?rule r{=>}", api.ErrSyntax, 0)
}

// P6.1: names behind a ? or a ' that have a word's text stand for no word.
func TestWordsThatAreNames(t *testing.T) {
	for _, w := range []string{"fact", "rule", "salience", "not", "test", "assert", "retract", "say", "halt", "and", "or"} {
		for _, sign := range []string{"?", "'"} {
			for _, s := range []string{"fact a();", "rule r salience 1 { not p(); test 1; => assert p(); retract 1; say 1 and 2 or 3; halt; }"} {
				if turned := strings.Replace(s, w+" ", sign+w+" ", 1); turned != s {
					mustFail(t, turned, api.ErrSyntax, strings.Index(turned, sign))
				}
			}
			mustMake(t, "=> say "+sign+w+";", "say@11 ["+map[string]string{"?": "var", "'": "atom"}[sign]+"@15 "+w+"]")
		}
	}
}

// P6.1: what scan refuses is told ahead of all else, wherever it stands.
func TestScanFaults(t *testing.T) {
	for _, s := range []string{everything, "", "fact a(b c); ", "rule r { halt; }", ") ", "rule r { => say " + strings.Repeat("-", 40) + "1; }"} {
		mustFail(t, s+"!", api.ErrByte, len(s))
		mustFail(t, s+" A fact", api.ErrByte, len(s)+1)
		mustFail(t, s+" ?;", api.ErrToken, len(s)+1)
		mustFail(t, s+" 12a;", api.ErrToken, len(s)+1)
		mustFail(t, s+" 9223372036854775808", api.ErrToken, len(s)+1)
		mustFail(t, s+" "+strings.Repeat("a", 25)+"!", api.ErrToken, len(s)+1)
		mustFail(t, s+strings.Repeat(" ", api.MaxSource+1-len(s)), api.ErrLong, 0)
		mustFail(t, "!"+s+strings.Repeat(" ", api.MaxSource), api.ErrLong, 0)
	}
	full := everything + strings.Repeat("\n", api.MaxSource-len(everything))
	mustTell(t, full, shown(parsed(t, everything)))
	mustFail(t, full+"\n", api.ErrLong, 0)
	mustFail(t, full[:api.MaxSource-1]+";", api.ErrSyntax, api.MaxSource-1)
	mustFail(t, "fact a("+strings.Repeat(" ", api.MaxSource-7), api.ErrSyntax, api.MaxSource)
}

// R4: each answer hangs on its source alone, whatever was asked ahead.
func TestAlike(t *testing.T) {
	first := map[string]string{}
	for range 3 {
		for _, s := range []string{everything, "", "fact a(b c);", "fact a();", "?", everything + everything} {
			n, fault := parse.Program(s)
			told := shown(n) + fault.Err.Error() + strconv.Itoa(fault.At)
			if first[s] == "" {
				first[s] = told
			}
			if told != first[s] {
				t.Errorf("%q: %s, then %s", s, first[s], told)
			}
		}
	}
}
