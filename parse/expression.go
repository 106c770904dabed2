package parse

import "ropewalk/api"

// operator stands between two expressions. Behind these, in the same row, operators bind at most as strongly as then says: less than it does itself, if no other one of its kind may follow.
type operator struct {
	text  string
	binds int
	then  int
}

var operators = [...]operator{
	{"or", 1, 1},
	{"and", 2, 2},
	{"=", 3, 2}, {"!=", 3, 2}, {"<", 3, 2}, {"<=", 3, 2}, {">", 3, 2}, {">=", 3, 2},
	{"+", 4, 4}, {"-", 4, 4},
	{"*", 5, 5},
}

// How strongly operators bind.
const (
	weakest   = 1
	strongest = 5
)

func (p *parser) expression() api.Node {
	return p.binding(weakest)
}

// binding reads an expression whose operators, outside of brackets, bind at least so strongly.
func (p *parser) binding(least int) api.Node {
	at := p.at()
	n := p.unary()
	most := strongest
	for o := p.operator(); least <= o.binds && o.binds <= most; o = p.operator() {
		p.pass()
		n = api.Node{Kind: api.NodeOp, Text: o.text, At: at, Kids: []api.Node{n, p.binding(o.binds + 1)}}
		most = o.then
	}
	return n
}

// operator tells which one stands next: one that binds nothing, if none does.
func (p *parser) operator() operator {
	for _, o := range operators {
		if p.is(o.text) {
			return o
		}
	}
	return operator{}
}

func (p *parser) unary() api.Node {
	at := p.at()
	switch text := p.skip("-", "not", "("); text {
	case "-", "not":
		return api.Node{Kind: api.NodeOp, Text: text, At: at, Kids: []api.Node{p.unary()}}
	case "(":
		n := p.expression()
		p.ask(")")
		return n
	}
	return p.single()
}

// single reads what is one token, and a node of its own.
func (p *parser) single() api.Node {
	token := p.next()
	n := api.Node{Text: token.Text, At: token.At}
	switch token.Kind {
	case api.TokNum:
		n.Kind = api.NodeNum
	case api.TokAtom:
		n.Kind = api.NodeAtom
	case api.TokVar:
		n.Kind = api.NodeVar
	default:
		p.fail()
		return api.Node{}
	}
	p.pass()
	return n
}
