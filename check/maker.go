package check

import (
	"slices"
	"strings"

	"ropewalk/api"
	"ropewalk/scan"
)

// maker makes a rule's parts, from left to right. Its table is of the variables that are bound.
type maker struct {
	table
	types *declared[api.Type]
	facts int // conditions that ask for a fact, so far
}

func (m *maker) condition(n api.Node) api.Cond {
	switch n.Kind {
	case api.NodeFact:
		m.facts++
		return api.Cond{Kind: api.CondFact, Type: m.typeOf(n), Args: each(n.Kids, m.factArgument)}
	case api.NodeNot:
		return api.Cond{Kind: api.CondNot, Type: m.typeOf(n), Args: each(n.Kids, m.argument)}
	}
	return api.Cond{Kind: api.CondTest, Test: m.expression(n.Kids[0])}
}

func (m *maker) action(n api.Node) api.Act {
	switch n.Kind {
	case api.NodeAssert:
		return api.Act{Kind: api.ActAssert, Type: m.typeOf(n), Exprs: each(n.Kids, m.expression)}
	case api.NodeRetract:
		refuse(n, refusal{n.Num < 1 || n.Num > m.facts, api.ErrWhich})
		return api.Act{Kind: api.ActRetract, Which: n.Num - 1}
	case api.NodeSay:
		return api.Act{Kind: api.ActSay, Exprs: each(n.Kids, m.expression)}
	}
	return api.Act{Kind: api.ActHalt}
}

// typeOf tells the place of the type that n names.
func (m *maker) typeOf(n api.Node) int {
	refuse(n, refusal{!m.types.known(n.Text), api.ErrName})
	place := m.types.place(n.Text)
	refuse(n, refusal{len(n.Kids) != m.types.made[place].Fields, api.ErrArity})
	return place
}

// factArgument makes an argument of a condition that asks for a fact: a variable that is not bound is bound by it.
func (m *maker) factArgument(n api.Node) api.Arg {
	if n.Kind != api.NodeVar || m.known(n.Text) {
		return m.argument(n)
	}
	refuse(n, refusal{m.size() >= api.MaxVars, api.ErrMany})
	m.add(n.Text)
	return api.Arg{Kind: api.ArgBind, Var: m.place(n.Text)}
}

// argument makes one that binds nothing.
func (m *maker) argument(n api.Node) api.Arg {
	switch n.Kind {
	case api.NodeAny:
		return api.Arg{Kind: api.ArgAny}
	case api.NodeVar:
		return api.Arg{Kind: api.ArgVar, Var: m.variable(n)}
	}
	return api.Arg{Kind: api.ArgConst, Value: constant(n)}
}

func (m *maker) expression(n api.Node) api.Expr {
	switch n.Kind {
	case api.NodeVar:
		return api.Expr{Kind: api.ExprVar, Var: m.variable(n)}
	case api.NodeOp:
		return m.operation(n)
	}
	return api.Expr{Kind: api.ExprConst, Value: constant(n)}
}

// operation turns the Kids about where that is asked for when all of them are made: their faults are told from left to right.
func (m *maker) operation(n api.Node) api.Expr {
	kids := each(n.Kids, m.expression)
	o := operatorOf(n)
	if o.turned {
		slices.Reverse(kids)
	}
	return api.Expr{Kind: api.ExprOp, Op: o.op, Kids: kids}
}

// variable tells the number of one that is bound.
func (m *maker) variable(n api.Node) int {
	refuse(n, refusal{!m.known(n.Text), api.ErrUnbound})
	return m.place(n.Text)
}

// constant tells the value of a name, or of a number, perhaps with a - ahead.
func constant(n api.Node) api.Value {
	if n.Kind == api.NodeAtom {
		return api.Value{Kind: api.Name, Text: strings.Clone(n.Text)}
	}
	digits, below := strings.CutPrefix(n.Text, "-")
	num, _ := scan.Number(digits)
	if below {
		num = -num
	}
	return api.Value{Kind: api.Int, Num: num}
}
