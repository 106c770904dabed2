package parse

import (
	"ropewalk/api"
	"ropewalk/scan"
)

// farthest is the most that the numbers of salience and retract say.
const farthest = 1<<31 - 1

// parser reads what the grammar says. Behind a fault it goes on with zero values, which nobody is told.
type parser struct{ position }

func (p *parser) program() api.Node {
	n := api.Node{Kind: api.NodeProgram}
	for p.is("fact", "rule") {
		n.Kids = append(n.Kids, p.declaration())
	}
	if p.next().Kind != api.TokEnd {
		p.fail()
	}
	return n
}

func (p *parser) declaration() api.Node {
	n := api.Node{At: p.at()}
	if p.skip("fact") != "" {
		n.Kind, n.Text = api.NodeType, p.take(api.TokName)
		n.Kids = p.bracketed(p.field)
		p.ask(";")
		return n
	}
	p.ask("rule")
	n.Kind, n.Text = api.NodeRule, p.take(api.TokName)
	n.Num = p.salience()
	n.Kids = p.body()
	return n
}

func (p *parser) field() api.Node {
	return api.Node{Kind: api.NodeField, At: p.at(), Text: p.take(api.TokName)}
}

// salience tells 0, if none stands there.
func (p *parser) salience() int {
	if p.skip("salience") == "" {
		return 0
	}
	if p.skip("-") != "" {
		return -p.number()
	}
	return p.number()
}

func (p *parser) number() int {
	n, _ := scan.Number(p.next().Text)
	if n > farthest {
		p.fail()
	}
	p.take(api.TokNum)
	return int(n)
}

// body reads what a rule has: its conditions, and then its actions.
func (p *parser) body() (kids []api.Node) {
	p.ask("{")
	for p.is("not", "test") || p.next().Kind == api.TokName {
		kids = append(kids, p.condition())
	}
	p.ask("=>")
	for p.is("assert", "retract", "say", "halt") {
		kids = append(kids, p.action())
	}
	p.ask("}")
	return kids
}

func (p *parser) condition() api.Node {
	n := api.Node{At: p.at()}
	switch p.skip("test", "not") {
	case "test":
		n.Kind, n.Kids = api.NodeTest, []api.Node{p.expression()}
	case "not":
		n.Kind, n.Text = api.NodeNot, p.take(api.TokName)
		n.Kids = p.bracketed(p.argument)
	default:
		n.Kind, n.Text = api.NodeFact, p.take(api.TokName)
		n.Kids = p.bracketed(p.argument)
	}
	p.ask(";")
	return n
}

func (p *parser) argument() api.Node {
	at := p.at()
	switch p.skip("_", "-") {
	case "_":
		return api.Node{Kind: api.NodeAny, At: at}
	case "-":
		return api.Node{Kind: api.NodeNum, At: at, Text: "-" + p.take(api.TokNum)}
	}
	return p.single()
}

func (p *parser) action() api.Node {
	n := api.Node{At: p.at()}
	switch p.skip("assert", "retract", "say", "halt") {
	case "assert":
		n.Kind, n.Text = api.NodeAssert, p.take(api.TokName)
		n.Kids = p.bracketed(p.expression)
	case "retract":
		n.Kind, n.Num = api.NodeRetract, p.number()
	case "say":
		n.Kind, n.Kids = api.NodeSay, p.row(p.expression)
	case "halt":
		n.Kind = api.NodeHalt
	}
	p.ask(";")
	return n
}

// bracketed reads a row that may be of nothing, in brackets.
func (p *parser) bracketed(read func() api.Node) (kids []api.Node) {
	p.ask("(")
	if !p.is(")") {
		kids = p.row(read)
	}
	p.ask(")")
	return kids
}

// row reads one at least, with commas between.
func (p *parser) row(read func() api.Node) []api.Node {
	kids := []api.Node{read()}
	for p.skip(",") != "" {
		kids = append(kids, read())
	}
	return kids
}
