package parse_test

import (
	"slices"
	"strings"
	"testing"

	"ropewalk/api"
	"ropewalk/parse"
	"ropewalk/scan"
)

// alphabet has a token of each word, sign and kind, and the edges of numbers.
var alphabet = strings.Fields("fact rule salience not test assert retract say halt and or ( ) { } , ; => = != < <= > >= + - * _ name z ?var ?not 'atom 'say 0 7 2147483647 2147483648 " + most)

// spelt is a token as it stands in a source.
func spelt(token api.Lex) string {
	switch token.Kind {
	case api.TokVar:
		return "?" + token.Text
	case api.TokAtom:
		return "'" + token.Text
	}
	return token.Text
}

// spread is a source's tokens, each as it is spelt.
func spread(t *testing.T, s string) []string {
	t.Helper()
	tokens, fault := scan.Tokens(s)
	if fault != (api.Fault{}) {
		t.Fatalf("%q: %v", s, fault)
	}
	var l []string
	for _, token := range tokens[:len(tokens)-1] {
		l = append(l, spelt(token))
	}
	return l
}

// plainly holds what is told of a row of tokens against what the grammar, from the tokens on that the chart is ahead of, says, and tells whether it is a program.
func plainly(t *testing.T, c *chart, row []string) bool {
	t.Helper()
	s := strings.Join(row, " ")
	tokens, _ := scan.Tokens(s)
	k := c.fault(tokens)
	n, fault := parse.Program(s)
	if k < 0 {
		if fault != (api.Fault{}) || n.Kind != api.NodeProgram {
			t.Errorf("%q: %v, %v, and is a program", s, shown(n), fault)
		}
		return true
	}
	if want := (api.Fault{Err: api.ErrSyntax, At: tokens[k].At}); fault != want || shown(n) != "none@0" {
		t.Errorf("%q: %v, %v, not %v", s, shown(n), fault, want)
	}
	return false
}

// turned tries each row that comes of row by leaving out, putting in, or turning one token, or changing two about, or ending early; the chart follows, so that what is ahead is read once.
func turned(t *testing.T, row []string) (programs int) {
	t.Helper()
	c := newChart()
	try := func(parts ...[]string) {
		if plainly(t, c, slices.Concat(parts...)) {
			programs++
		}
	}
	tokens, _ := scan.Tokens(strings.Join(row, " "))
	for i := range len(row) + 1 {
		ahead, behind := row[:i], row[i:]
		try(ahead)
		for _, a := range alphabet {
			try(ahead, []string{a})
			try(ahead, []string{a}, behind)
			if i < len(row) {
				try(ahead, []string{a}, behind[1:])
			}
		}
		if i < len(row) {
			try(ahead, behind[1:])
			try(ahead, behind[:1], behind)
		}
		if i+1 < len(row) {
			try(ahead, behind[1:2], behind[:1], behind[2:])
		}
		if i < len(row) && !c.next(tokens[i]) {
			t.Fatalf("%q: not as the grammar says", row)
		}
	}
	return programs
}

// P6.1: a source with all that there is, cut behind each token, without each one, with one put in or turned into each other one.
func TestTurnedTokens(t *testing.T) {
	row := spread(t, everything)
	if !plainly(t, newChart(), row) {
		t.Fatal("everything is no program")
	}
	if programs := turned(t, row); programs < 500 {
		t.Errorf("only %d programs", programs)
	}
}

// P6.1: short sources, likewise; each token may begin one, or be all of it.
func TestTurnedShortSources(t *testing.T) {
	for _, s := range []string{"", "fact a();", "fact a(b, c);", "rule r { => }", "rule r salience - 1 { => }", "rule r { not a(-1); => retract 1; }", "fact a(); rule r { => halt; } fact a();"} {
		turned(t, spread(t, s))
	}
}

// rows tells all rows of up to size of some tokens.
func rows(some []string, size int, tell func(row []string)) {
	var row []string
	var grow func()
	grow = func() {
		tell(row)
		if len(row) == size {
			return
		}
		for _, s := range some {
			row = append(row, s)
			grow()
			row = row[:len(row)-1]
		}
	}
	grow()
}

// within tries all rows of up to size of some tokens, between what is ahead and behind.
func within(t *testing.T, ahead, behind, some string, size int) (programs int) {
	t.Helper()
	c := newChart()
	first, last := strings.Fields(ahead), strings.Fields(behind)
	tokens, _ := scan.Tokens(ahead)
	for _, token := range tokens[:len(first)] {
		if !c.next(token) {
			t.Fatal(ahead)
		}
	}
	rows(strings.Fields(some), size, func(row []string) {
		if plainly(t, c, slices.Concat(first, row, last)) {
			programs++
		}
	})
	return programs
}

// P6.1: all short rows of tokens, in each part of a program.
func TestAllShortRows(t *testing.T) {
	for _, c := range []struct {
		ahead, behind, some string
		size                int
	}{
		{"", "", strings.Join(alphabet, " "), 2},
		{"fact", "", "a ( ) , ; fact ?x 1", 6},
		{"fact a (", ") ;", "a , ( ) 1", 5},
		{"rule", "{ => }", "r salience - 1 2147483647 2147483648 {", 4},
		{"rule r {", "}", "a ( ) ; => test 1 not", 5},
		{"rule r { a (", ") ; => }", "_ ?x 'a 1 - , ) not", 4},
		{"rule r { =>", "}", "assert retract say halt a ( ) 1 ; =>", 4},
		{"rule r { => say", "; }", "1 ?x - not or = + * ( ) ,", 4},
	} {
		if within(t, c.ahead, c.behind, c.some, c.size) == 0 {
			t.Errorf("%s: no programs", c.ahead)
		}
	}
}
