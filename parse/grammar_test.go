package parse_test

import (
	"slices"
	"strings"

	"ropewalk/api"
	"ropewalk/scan"
)

// grammar is the chapter's, with small for a num that says at most 2^31 - 1.
const grammar = `
program = { decl } END
decl    = "fact" name "(" [ name { "," name } ] ")" ";"
        | "rule" name [ "salience" [ "-" ] small ] "{" { cond } "=>" { act } "}"
cond    = [ "not" ] name "(" [ arg { "," arg } ] ")" ";" | "test" expr ";"
arg     = "_" | var | [ "-" ] num | atom
act     = "assert" name "(" [ expr { "," expr } ] ")" ";" | "retract" small ";" | "say" expr { "," expr } ";" | "halt" ";"
expr    = or
or      = and { "or" and }
and     = cmp { "and" cmp }
cmp     = sum [ ( "=" | "!=" | "<" | "<=" | ">" | ">=" ) sum ]
sum     = product { ( "+" | "-" ) product }
product = unary { "*" unary }
unary   = ( "-" | "not" ) unary | num | atom | var | "(" expr ")"
`

// rules are what a grammar says: the rows of symbols that each name may be.
type rules map[string][][]string

// grammarReader makes rules of the grammar's words. Each bracket becomes a name of its own.
type grammarReader struct {
	words []string
	rules rules
}

func readGrammar() rules {
	r := grammarReader{strings.Fields(grammar), rules{}}
	for len(r.words) > 0 {
		name := r.words[0]
		r.words = r.words[2:]
		r.choices(name)
	}
	return r.rules
}

// choices reads what stands behind a name's =, or in a bracket, to its end.
func (r *grammarReader) choices(name string) {
	var row []string
	for len(r.words) > 0 && !strings.Contains("}])", r.words[0]) && !(len(r.words) > 1 && r.words[1] == "=") {
		word := r.words[0]
		r.words = r.words[1:]
		switch word {
		case "|":
			r.rules[name] = append(r.rules[name], row)
			row = nil
		case "{", "[", "(":
			row = append(row, r.bracket(word))
		default:
			row = append(row, word)
		}
	}
	r.rules[name] = append(r.rules[name], row)
}

func (r *grammarReader) bracket(open string) string {
	name := open + strings.Repeat("'", len(r.rules))
	r.rules[name] = nil
	r.choices(name)
	r.words = r.words[1:]
	if open == "{" {
		for i, row := range r.rules[name] {
			r.rules[name][i] = append(row, name)
		}
	}
	if open != "(" {
		r.rules[name] = append(r.rules[name], nil)
	}
	return name
}

// item is a row of a name, of which the symbols ahead of dot were met, from the token start on.
type item struct {
	name       string
	row        int
	dot, start int
}

// chart has the items that may stand ahead of each token, and behind the last one.
type chart struct {
	rules rules
	sets  [][]item
}

func newChart() *chart {
	c := &chart{rules: readGrammar()}
	c.sets = [][]item{c.closed([]item{{name: "program"}}, 0)}
	return c
}

// after is the symbol behind i's dot; nothing at its end.
func (c *chart) after(i item) string {
	row := c.rules[i.name][i.row]
	if i.dot == len(row) {
		return ""
	}
	return row[i.dot]
}

// closed puts to a set, ahead of the token at, all that follows from it.
func (c *chart) closed(set []item, at int) []item {
	seen := map[item]bool{}
	for _, i := range set {
		seen[i] = true
	}
	empty := map[string]bool{} // names that were met between at and at
	add := func(i item) {
		if !seen[i] {
			seen[i] = true
			set = append(set, i)
		}
	}
	for k := 0; k < len(set); k++ {
		i := set[k]
		symbol := c.after(i)
		if symbol == "" {
			from := set
			if i.start < at {
				from = c.sets[i.start]
			} else {
				empty[i.name] = true
			}
			for _, up := range slices.Clone(from) {
				if c.after(up) == i.name {
					up.dot++
					add(up)
				}
			}
			continue
		}
		for row := range c.rules[symbol] {
			add(item{symbol, row, 0, at})
		}
		if empty[symbol] {
			i.dot++
			add(i)
		}
	}
	return set
}

// next goes on by a token, if it may stand there.
func (c *chart) next(token api.Lex) bool {
	var set []item
	for _, i := range c.sets[len(c.sets)-1] {
		if c.rules[c.after(i)] == nil && isSymbol(token, c.after(i)) {
			i.dot++
			set = append(set, i)
		}
	}
	if len(set) == 0 {
		return false
	}
	c.sets = append(c.sets, c.closed(set, len(c.sets)))
	return true
}

// back goes back to ahead of the token at.
func (c *chart) back(at int) { c.sets = c.sets[:at+1] }

// fault is the number of the first of the tokens, from the one on that the chart is ahead of, that may not be there; -1, if it is none.
func (c *chart) fault(tokens []api.Lex) int {
	from := len(c.sets) - 1
	defer c.back(from)
	for i, token := range tokens[from:] {
		if !c.next(token) {
			return from + i
		}
	}
	return -1
}

// isSymbol tells whether a token is what a symbol of the grammar asks for.
func isSymbol(token api.Lex, symbol string) bool {
	switch symbol {
	case "name":
		return token.Kind == api.TokName
	case "var":
		return token.Kind == api.TokVar
	case "atom":
		return token.Kind == api.TokAtom
	case "num":
		return token.Kind == api.TokNum
	case "small":
		n, is := scan.Number(token.Text)
		return token.Kind == api.TokNum && is && n <= 2147483647
	case "END":
		return token.Kind == api.TokEnd
	}
	return (token.Kind == api.TokWord || token.Kind == api.TokSign) && symbol == `"`+token.Text+`"`
}
