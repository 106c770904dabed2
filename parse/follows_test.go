package parse_test

import (
	"slices"
	"strings"
	"testing"

	"ropewalk/api"
	"ropewalk/node"
	"ropewalk/parse"
	"ropewalk/scan"
)

// P6.2: what is parsed is right.
func TestParsedIsRight(t *testing.T) {
	m := maker(11, 8)
	right := 0
	for range 6000 {
		n := m.program()
		row := spread(t, m.written(&n))
		for range m.Intn(3) { // turn some tokens
			if len(row) > 0 {
				row[m.Intn(len(row))] = m.one(alphabet...)
			}
		}
		told, fault := parse.Program(strings.Join(row, " "))
		if fault == (api.Fault{}) {
			right++
			if !node.Right(told) {
				t.Errorf("%q: %s", row, shown(told))
			}
		}
	}
	if right < 2000 || right == 6000 {
		t.Errorf("%d were programs", right)
	}
}

// P6.2: what stands behind the token of an ErrSyntax plays no part, but for what scan tells.
func TestBehindAFault(t *testing.T) {
	m := maker(12, 5)
	faults := 0
	for range 1000 {
		n := m.program()
		row := spread(t, m.written(&n))
		if len(row) == 0 {
			continue
		}
		row[m.Intn(len(row))] = m.one(alphabet...)
		s := strings.Join(row, " ")
		_, fault := parse.Program(s)
		if fault.Err != api.ErrSyntax || fault.At == len(s) {
			continue
		}
		faults++
		tokens, _ := scan.Tokens(s[fault.At:])
		upTo := s[:fault.At] + spelt(tokens[0])
		for _, end := range []string{"", " ", " # a", ";", " )", "}", " fact", " fact a();", " 1 = 2 = 3;", " " + strings.Join(row, " "), strings.Repeat("(", 100)} {
			mustFail(t, upTo+" "+end, api.ErrSyntax, fault.At)
		}
		mustFail(t, upTo+" !", api.ErrByte, len(upTo)+1)
		mustFail(t, upTo+" ; 12a", api.ErrToken, len(upTo)+3)
		mustFail(t, upTo+strings.Repeat(" ", api.MaxSource), api.ErrLong, 0)
	}
	if faults < 500 {
		t.Errorf("only %d faults", faults)
	}
}

// P6.2: brackets around an expression change nothing but places.
func TestBracketsChangeNothing(t *testing.T) {
	m := maker(13, 7)
	for range 2000 {
		n := m.program()
		few, many := m.bracketed(&n, 0), m.bracketed(&n, 8)
		if a, b := parsed(t, few), parsed(t, many); !node.Same(a, b) || !node.Same(a, n) {
			t.Errorf("%q: %s, and %q: %s", few, shown(a), many, shown(b))
		}
	}
}

// moved is n with its places, and all below, so much on.
func moved(n api.Node, by int) api.Node {
	n.At += by
	n.Kids = slices.Clone(n.Kids)
	for i, k := range n.Kids {
		n.Kids[i] = moved(k, by)
	}
	return n
}

// P6.2: two programs, one behind the other, are one of both's Kids.
func TestTwoPrograms(t *testing.T) {
	m := maker(14, 6)
	for range 2000 {
		a, b := m.program(), m.program()
		s, u := m.written(&a), m.written(&b)
		both := parsed(t, s+u)
		want := parsed(t, s)
		want.Kids = append(want.Kids, moved(parsed(t, u), len(s)).Kids...)
		if shown(both) != shown(want) {
			t.Errorf("%q and %q: %s, not %s", s, u, shown(both), shown(want))
		}
	}
}

// P6.2: a fault of the second one is where it was, so much on; one of the first one stays.
func TestTwoProgramsOneWrong(t *testing.T) {
	for _, s := range []string{"", "fact a();", everything, "# a\n"} {
		for wrong, fault := range map[string]api.Fault{
			"fact a(b c);":                   {Err: api.ErrSyntax, At: 9},
			"rule r { halt; }":               {Err: api.ErrSyntax, At: 9},
			"; fact":                         {Err: api.ErrSyntax, At: 0},
			"rule r { => say 1 = 2 = 3; }":   {Err: api.ErrSyntax, At: 22},
			"rule r { => retract 2147483648": {Err: api.ErrSyntax, At: 20},
			"rule r{=>say " + strings.Repeat("-", 30) + "1;}": {Err: api.ErrDeep, At: 13 + 27},
		} {
			mustFail(t, s+wrong, fault.Err, len(s)+fault.At)
			if fault.Err == api.ErrSyntax {
				mustFail(t, wrong+" "+s, fault.Err, fault.At)
			}
		}
	}
}
