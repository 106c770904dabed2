package parse_test

import (
	"strconv"
	"strings"
	"testing"

	"ropewalk/api"
	"ropewalk/node"
	"ropewalk/parse"
)

// mustBeDeep parses s, which is so deep: where that is too deep, ErrDeep is told, at the place at.
func mustBeDeep(t *testing.T, s string, deep, at int) {
	t.Helper()
	if deep > api.MaxNest {
		mustFail(t, s, api.ErrDeep, at)
		return
	}
	if n := parsed(t, s); node.Deep(n) != deep || !node.Right(n) {
		t.Errorf("%.200q: %d deep, not %d", s, node.Deep(n), deep)
	}
}

// ahead are the ways to a place where an expression may stand, and behind what goes on; the expression's node has three above it.
var ahead = []string{"rule r{=>say ", "fact a(); rule r{a();=>halt; say 1, ", "rule r{test ", "rule r{=>assert p(1, "}

func behind(ahead string) string {
	switch {
	case strings.Contains(ahead, "test"):
		return ";=>}"
	case strings.Contains(ahead, "assert"):
		return ");}"
	}
	return ";}"
}

// P6.1: 30 deep is a program, one more is not: the place is of the first node with thirty above it.
func TestDeep(t *testing.T) {
	for _, a := range ahead {
		for _, deep := range []int{4, 5, 29, 30, 31, 32, 33, 60, 1000} {
			b := behind(a)
			k := deep - 4
			mustBeDeep(t, a+strings.Repeat("-", k)+"1"+b, deep, len(a)+27)
			mustBeDeep(t, a+strings.Repeat("not ", k)+"?x"+b, deep, len(a)+4*27)
			mustBeDeep(t, a+strings.Repeat("-(", k)+"1"+strings.Repeat(")", k)+b, deep, len(a)+2*27)
			// All sums begin where the first one does; so does the 1 that is the deepest.
			mustBeDeep(t, a+"1"+strings.Repeat("+1", k)+b, deep, len(a))
			mustBeDeep(t, a+"1"+strings.Repeat(" or 1", k)+b, deep, len(a))
			// The 27th product has thirty nodes above its parts, of which the 1 is the first.
			mustBeDeep(t, a+strings.Repeat("1*(", k)+"1"+strings.Repeat(")", k)+b, deep, len(a)+3*26)
			// The first bracket is around all; each of the others begins a comparison, but that the innermost one begins with its 1.
			mustBeDeep(t, a+strings.Repeat("(", k)+"1"+strings.Repeat("=1)", k)+b, deep, len(a)+min(k, 28))
		}
	}
}

// P6.1: brackets make nothing deeper, as many as a source has room for.
func TestManyBrackets(t *testing.T) {
	for _, many := range []int{1, 30, 1000, (api.MaxSource - 16) / 2} {
		s := "rule r{=>say " + strings.Repeat("(", many) + "1" + strings.Repeat(")", many) + ";}"
		mustTell(t, s, "program@0 [rule@0 r [say@9 [num@"+strconv.Itoa(13+many)+" 1]]]")
		mustFail(t, strings.Replace(s, ");", ";", 1), api.ErrSyntax, len(s)-3)
		mustFail(t, strings.Replace(s, ")", "", 1)[:len(s)-2], api.ErrSyntax, len(s)-3)
		mustFail(t, s[:13+many], api.ErrSyntax, 13+many)
	}
}

// P6.1: operators, as many as a source has room for.
func TestManyOperators(t *testing.T) {
	room := api.MaxSource - 16
	mustFail(t, "rule r{=>say "+strings.Repeat("-", room)+"1;}", api.ErrDeep, 13+27)
	mustFail(t, "rule r{=>say "+strings.Repeat("-", room)+";}", api.ErrSyntax, 13+room)
	mustFail(t, "rule r{=>say 1"+strings.Repeat("-1", room/2)+";}", api.ErrDeep, 13)
	mustFail(t, "rule r{=>say 1"+strings.Repeat("-1", room/2)+";", api.ErrSyntax, 13+2*(room/2)+2)
	mustFail(t, "rule r{=>say "+strings.Repeat("1-(", room/4)+"1"+strings.Repeat(")", room/4)+";}", api.ErrDeep, 13+3*26)
	mustFail(t, "rule r{=>say "+strings.Repeat("(-", room/3)+"1"+strings.Repeat(")", room/3)+";}", api.ErrDeep, 13+1+2*27)
}

// P6.1: of several nodes that are too deep, the first one as they stand in the tree is named, not the first in the source, nor the deepest.
func TestFirstTooDeep(t *testing.T) {
	x := func(deep int) string { return strings.Repeat("-", deep-1) + "1" }
	say := func(rows ...string) (s string, places []int) {
		s = "rule r{=>say "
		for i, row := range rows {
			if i > 0 {
				s += ","
			}
			places = append(places, len(s))
			s += row
		}
		return s + ";}", places
	}
	s, at := say(x(27), x(28), x(40), x(28))
	mustFail(t, s, api.ErrDeep, at[1]+27)
	s, at = say(x(27), x(40), x(28))
	mustFail(t, s, api.ErrDeep, at[1]+27)
	s, at = say(x(27), "("+x(26)+") + "+x(27), x(28))
	mustFail(t, s, api.ErrDeep, at[1]+len("("+x(26)+") + ")+26)
	s, at = say("(1 + " + x(26) + ") * " + x(40))
	mustFail(t, s, api.ErrDeep, at[0]+5+25)
	s, at = say("(" + x(25) + " + 1) * (" + x(27) + ")")
	mustFail(t, s, api.ErrDeep, at[0]+len("("+x(25)+" + 1) * (")+26)
	s, _ = say("(" + x(25) + " + 1) * (" + x(26) + ")")
	mustBeDeep(t, s, 30, 0)
	s, _ = say(x(27), "("+x(26)+") + "+x(26), x(27))
	mustBeDeep(t, s, 30, 0)
	rule := func(x string) string { return "rule r { test " + x + "; => }" }
	mustBeDeep(t, rule(x(27))+rule(x(27)), 30, 0)
	mustFail(t, rule(x(27))+rule(x(28))+rule(x(50)), api.ErrDeep, len(rule(x(27)))+14+27)
	// The sum's node stands ahead of its parts, and begins with the bracket of the first one.
	mustFail(t, rule(strings.Repeat("-", 27)+"((1) + 2)"), api.ErrDeep, 14+27+1)
	mustFail(t, rule(strings.Repeat("-", 26)+"((1) + 2)"), api.ErrDeep, 14+26+2)
	mustFail(t, rule(strings.Repeat("-", 27)+"(((1)) + 2)"), api.ErrDeep, 14+27+1)
	mustFail(t, rule(strings.Repeat("-", 27)+"(1)"), api.ErrDeep, 14+27+1)
}

// manyIn makes sources of so many nodes, in several ways.
func manyIn(many int) []string {
	fields := func(n int) string { return strings.Join(strings.Split(strings.Repeat("a", n), ""), ",") }
	half := (many - 3) / 2
	sums := []string{}
	left := many - 3
	for ; left >= 25; left -= 25 {
		sums = append(sums, "1"+strings.Repeat("+1", 12))
	}
	for range left {
		sums = append(sums, "1")
	}
	return []string{
		"fact a(" + fields(many-2) + ");",
		"fact a(" + fields(half) + "); fact b(" + fields(many-3-half) + ");",
		"rule r { => say " + strings.Join(sums, ",") + "; }",
		"rule r { => say (" + strings.Join(sums, "), (") + "); }",
		"rule r { p(_" + strings.Repeat(",1", half-2) + "); => assert p(?x" + strings.Repeat(",1", many-5-half+1) + "); }",
	}
}

// P6.1: 4096 nodes are a program, one more is not.
func TestMany(t *testing.T) {
	for _, many := range []int{100, api.MaxNodes - 1, api.MaxNodes, api.MaxNodes + 1, api.MaxNodes + 2, 5000, 8000} {
		for _, s := range manyIn(many) {
			if many > api.MaxNodes {
				mustFail(t, s, api.ErrMany, 0)
				continue
			}
			n := parsed(t, s)
			if len(parts(&n)) != many || !node.Right(n) {
				t.Errorf("%.100q: %d, not %d", s, len(parts(&n)), many)
			}
		}
	}
}

// P6.1: of errors that are all there, the first one in the table is told.
func TestOrderOfErrors(t *testing.T) {
	deep := "rule r{=>say " + strings.Repeat("-", 27) + "1;}"
	many := "fact a(" + strings.Repeat("a,", api.MaxNodes) + "a);"
	mustFail(t, deep, api.ErrDeep, 13+27)
	mustFail(t, many, api.ErrMany, 0)
	mustFail(t, many+deep, api.ErrDeep, len(many)+13+27)
	mustFail(t, deep+many, api.ErrDeep, 13+27)
	for _, s := range []string{deep, many, deep + many, many + deep} {
		mustFail(t, s+"fact", api.ErrSyntax, len(s)+4)
		mustFail(t, s+"fact a(b c); !", api.ErrByte, len(s)+13)
		mustFail(t, s+"fact a(b c); ?", api.ErrToken, len(s)+13)
		mustFail(t, "; "+s, api.ErrSyntax, 0)
		mustFail(t, s[:len(s)-1], api.ErrSyntax, len(s)-1)
		mustFail(t, s+"fact a(b c);"+strings.Repeat("!", api.MaxSource), api.ErrLong, 0)
	}
	_, fault := parse.Program("rule r{=>say " + strings.Repeat("-", 40) + "1; retract 2147483648;}")
	if fault != (api.Fault{Err: api.ErrSyntax, At: 13 + 40 + 3 + 8}) {
		t.Errorf("%v", fault)
	}
}
