package check

import (
	"slices"
	"strings"

	"ropewalk/api"
)

// program is what was made of a program's declarations so far.
type program struct {
	types declared[api.Type]
	rules declared[api.Rule]
}

// rulesOf makes the types ahead of all rules: these may stand ahead of the types that they name.
func rulesOf(n api.Node) api.Rules {
	var p program
	for _, kid := range only(n.Kids, api.NodeType) {
		p.addType(kid)
	}
	for _, kid := range only(n.Kids, api.NodeRule) {
		p.addRule(kid)
	}
	return api.Rules{Types: p.types.made, Rules: p.rules.made}
}

func (p *program) addType(n api.Node) {
	refuse(n,
		refusal{p.types.known(n.Text), api.ErrTwice},
		refusal{p.types.size() >= api.MaxTypes, api.ErrMany},
		refusal{len(n.Kids) > api.MaxFields, api.ErrMany})
	var fields table
	for _, kid := range n.Kids {
		refuse(kid, refusal{fields.known(kid.Text), api.ErrTwice})
		fields.add(kid.Text)
	}
	p.types.declare(n.Text, api.Type{Name: strings.Clone(n.Text), Fields: fields.size()})
}

func (p *program) addRule(n api.Node) {
	conditions := only(n.Kids, api.NodeFact, api.NodeNot, api.NodeTest)
	actions := only(n.Kids, api.NodeAssert, api.NodeRetract, api.NodeSay, api.NodeHalt)
	refuse(n,
		refusal{p.rules.known(n.Text), api.ErrTwice},
		refusal{n.Num < -api.MaxSalience || n.Num > api.MaxSalience, api.ErrArg},
		refusal{p.rules.size() >= api.MaxRules, api.ErrMany},
		refusal{len(conditions) > api.MaxConds || len(actions) > api.MaxActs, api.ErrMany})
	m := maker{types: &p.types}
	p.rules.declare(n.Text, api.Rule{
		Name:     strings.Clone(n.Text),
		Salience: n.Num,
		Conds:    each(conditions, m.condition),
		Acts:     each(actions, m.action),
		Vars:     m.size(), // asked last: conditions bind them
	})
}

// only tells those of the kinds, as they stand.
func only(nodes []api.Node, kinds ...api.NodeKind) []api.Node {
	var l []api.Node
	for _, n := range nodes {
		if slices.Contains(kinds, n.Kind) {
			l = append(l, n)
		}
	}
	return l
}

// each makes one of each node, from left to right.
func each[T any](nodes []api.Node, one func(api.Node) T) []T {
	var made []T
	for _, n := range nodes {
		made = append(made, one(n))
	}
	return made
}
