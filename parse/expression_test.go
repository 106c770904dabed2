package parse_test

import (
	"slices"
	"strings"
	"testing"

	"ropewalk/api"
	"ropewalk/scan"
)

// levels are the operators of two, the weakest ones first.
var levels = [][]string{{"or"}, {"and"}, {"=", "!=", "<", "<=", ">", ">="}, {"+", "-"}, {"*"}}

// plainExpression says what a row of tokens, which is an expression, says: the last one of its weakest operators outside of brackets is done last.
func plainExpression(row []api.Lex) api.Node {
	for _, level := range levels {
		if i := lastOf(row, level); i >= 0 {
			return api.Node{Kind: api.NodeOp, Text: row[i].Text, At: row[0].At, Kids: []api.Node{plainExpression(row[:i]), plainExpression(row[i+1:])}}
		}
	}
	first := row[0]
	switch {
	case first.Kind == api.TokSign && first.Text == "(":
		return plainExpression(row[1 : len(row)-1])
	case first.Kind == api.TokSign || first.Kind == api.TokWord:
		return api.Node{Kind: api.NodeOp, Text: first.Text, At: first.At, Kids: []api.Node{plainExpression(row[1:])}}
	}
	kind := map[api.TokenKind]api.NodeKind{api.TokNum: api.NodeNum, api.TokVar: api.NodeVar, api.TokAtom: api.NodeAtom}[first.Kind]
	return api.Node{Kind: kind, Text: first.Text, At: first.At}
}

// lastOf is where the last one of some operators stands outside of brackets, behind an expression; -1, if none does.
func lastOf(row []api.Lex, operators []string) int {
	last, open := -1, 0
	for i, token := range row {
		sign := token.Kind == api.TokSign || token.Kind == api.TokWord
		switch {
		case sign && token.Text == "(":
			open++
		case sign && token.Text == ")":
			open--
		case sign && open == 0 && i > 0 && slices.Contains(operators, token.Text) && endsOne(row[i-1]):
			last = i
		}
	}
	return last
}

// endsOne tells whether an expression may end with a token.
func endsOne(token api.Lex) bool {
	return token.Kind == api.TokNum || token.Kind == api.TokVar || token.Kind == api.TokAtom || token.Text == ")"
}

// mustBePlain holds what is told of an expression, wherever one may stand, against what is plain.
func mustBePlain(t *testing.T, x string) {
	t.Helper()
	for _, around := range [][2]string{{"rule r{test ", ";=>}"}, {"rule r{=>say ", ";}"}, {"rule r{=>assert p(", ");}"}} {
		s := around[0] + x + around[1]
		tokens, _ := scan.Tokens(s)
		from := slices.IndexFunc(tokens, func(l api.Lex) bool { return l.At == len(around[0]) })
		to := slices.IndexFunc(tokens, func(l api.Lex) bool { return l.At >= len(around[0]+x) })
		n := parsed(t, s)
		if len(n.Kids) != 1 || len(n.Kids[0].Kids) != 1 || len(n.Kids[0].Kids[0].Kids) != 1 {
			t.Errorf("%q: %s", s, shown(n))
			continue
		}
		want := shown(plainExpression(tokens[from:to]))
		if got := shown(n.Kids[0].Kids[0].Kids[0]); got != want {
			t.Errorf("%q: %s, not %s", s, got, want)
		}
	}
}

// P6.1: operators of two, from the left; what binds more is done first.
func TestOperators(t *testing.T) {
	var all []string
	for _, level := range levels {
		all = append(all, level...)
	}
	comparison := func(s string) bool { return slices.Contains(levels[2], s) }
	for _, a := range all {
		mustBePlain(t, "1 "+a+" 2")
		for _, b := range all {
			if comparison(a) && comparison(b) {
				for _, x := range []string{"1 " + a + " 2 ", "1 " + a + " 2 + 3 * 4 ", "7 or 1 " + a + " - 2 ", "(7) and 1 * 1 " + a + " (2 = 3) "} {
					mustFail(t, "rule r{=>say "+x+b+" 3;}", api.ErrSyntax, 13+len(x))
				}
				mustBePlain(t, "(1 "+a+" 2) "+b+" 3")
				mustBePlain(t, "1 "+a+" (2 "+b+" 3)")
				mustBePlain(t, "1 "+a+" 2 and 3 "+b+" 4")
				continue
			}
			mustBePlain(t, "1 "+a+" 2 "+b+" 3")
			mustBePlain(t, "(1 "+a+" 2) "+b+" 3")
			mustBePlain(t, "1 "+a+" (2 "+b+" 3)")
			for _, c := range all {
				if !comparison(c) || !comparison(a) && !comparison(b) {
					mustBePlain(t, "?x "+a+" 'b "+b+" 7 "+c+" ?y")
				}
			}
		}
	}
}

// P6.1: operators of one bind more than those of two, one behind the other, too.
func TestOperatorsOfOne(t *testing.T) {
	for _, a := range []string{"-", "not ", "--", "not not ", "- not ", "not-", "- - -", "not - not - "} {
		for _, x := range []string{"1", "?x", "'a", "(1)", "(1 + 2)", "((?x))", "-(1)"} {
			mustBePlain(t, a+x)
			mustBePlain(t, "("+a+x+")")
			for _, level := range levels {
				mustBePlain(t, a+x+" "+level[0]+" 2")
				mustBePlain(t, "2 "+level[0]+" "+a+x)
				mustBePlain(t, a+x+" "+level[len(level)-1]+" "+a+x)
			}
		}
	}
	for _, x := range []string{"1 - -1", "1--1", "1---1", "1 - not 1", "1 or not 1 and not not 2", "-1 * -2 + -3 = -4", "not 1 = not 2", "not(1)=2", "1 < 2 or 3 > 4 and 5 != 6", "1+2+3+4-5-6*7*8*9"} {
		mustBePlain(t, x)
	}
	for x, at := range map[string]int{"-": 1, "not": 3, "1 -": 3, "1 not 2": 2, "* 1": 0, "+1": 0, "= 1": 0, "1 + + 2": 4, "1 * * 2": 4, "1 and and 2": 6, "or": 0, "1 = = 2": 4, "not = 1": 4, "1 + = 2": 4, "- and 1": 2, "1 => 2": 2} {
		mustFail(t, "rule r{=>say "+x+";}", api.ErrSyntax, 13+at)
	}
}

// expressions tells all rows of up to size of some tokens that, where the chart is, may have a ; behind them.
func expressions(c *chart, some []string, size int, tell func(x string)) {
	var row []string
	var grow func()
	grow = func() {
		at := len(c.sets) - 1
		if c.next(api.Lex{Kind: api.TokSign, Text: ";"}) {
			tell(strings.Join(row, " "))
			c.back(at)
		}
		if len(row) == size {
			return
		}
		for _, s := range some {
			tokens, _ := scan.Tokens(s)
			if c.next(tokens[0]) {
				row = append(row, s)
				grow()
				row = row[:len(row)-1]
				c.back(at)
			}
		}
	}
	grow()
}

// P6.1: all short rows of tokens that are an expression.
func TestAllShortExpressions(t *testing.T) {
	c := newChart()
	tokens, _ := scan.Tokens("rule r { => say")
	for _, token := range tokens[:5] {
		c.next(token)
	}
	met := 0
	for _, set := range []struct {
		some string
		size int
	}{{"1 ?x - not or and = < + * ( )", 6}, {"1 - = ( )", 9}, {"1 or and = + *", 9}} {
		expressions(c, strings.Fields(set.some), set.size, func(x string) {
			met++
			mustBePlain(t, x)
		})
	}
	if met < 5000 {
		t.Errorf("only %d expressions", met)
	}
}
