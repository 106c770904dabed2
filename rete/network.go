package rete

import (
	"ropewalk/api"
	"ropewalk/check"
	"ropewalk/pattern"
)

// network is a line of steps for each rule, the memories that they have together, and all facts.
type network struct {
	types    []api.Type
	memories map[kind]*memory
	lines    []line
	facts    map[int]api.Fact
	room
}

// line is a rule's steps, and its match of no condition, with which all others begin.
type line struct {
	steps []step
	first *match
}

func begin(r api.Rules) *network {
	n := &network{types: ownTypes(r.Types), memories: map[kind]*memory{}, facts: map[int]api.Fact{}, room: room{api.MaxTokens}}
	for _, rule := range r.Rules {
		l := line{first: &match{Env: pattern.New(rule.Vars)}}
		for _, c := range rule.Conds {
			l.steps = append(l.steps, n.step(ownCond(c)))
		}
		// Without facts there are never too many.
		n.grow(l.first, l.steps)
		n.lines = append(n.lines, l)
	}
	return n
}

func (n *network) step(c api.Cond) step {
	if c.Kind == api.CondTest {
		return test{c.Test}
	}
	k, asks := split(c)
	if c.Kind == api.CondNot {
		return negation{n.memory(k), asks}
	}
	return join{n.memory(k), asks}
}

// memory is the one of that kind, which is new, if none asked for it ahead.
func (n *network) memory(k kind) *memory {
	m, there := n.memories[k]
	if !there {
		m = &memory{kind: k}
		n.memories[k] = m
	}
	return m
}

// right tells whether f is right for the rules: it is, if a condition may ask for just what it says.
func (n *network) right(f api.Fact) bool {
	if f.Id < 1 || f.Id > api.MaxId || f.Type < 0 || f.Type >= len(n.types) || len(f.Args) > api.MaxFields {
		return false
	}
	asks := api.Cond{Kind: api.CondFact}
	for _, v := range f.Args {
		asks.Args = append(asks.Args, api.Arg{Kind: api.ArgConst, Value: v})
	}
	rule := api.Rule{Name: "r", Conds: []api.Cond{asks}}
	return check.Right(api.Rules{Types: n.types[f.Type : f.Type+1], Rules: []api.Rule{rule}})
}

// come answers false, and nothing is other, if there would be too many matches with f.
func (n *network) come(f api.Fact) bool {
	n.put(f)
	if !n.turned(f, func(s step, m *match) turn { return s.come(m, f) }) {
		n.take(f)
		return false
	}
	return true
}

// leave answers false, and nothing is other, if there would be too many matches without f.
func (n *network) leave(f api.Fact) bool {
	n.take(f)
	if !n.turned(f, func(s step, m *match) turn { return s.leave(m, f) }) {
		n.put(f)
		return false
	}
	return true
}

func (n *network) put(f api.Fact) {
	n.facts[f.Id] = f
	n.each(f, func(m *memory) { m.put(f) })
}

func (n *network) take(f api.Fact) {
	delete(n.facts, f.Id)
	n.each(f, func(m *memory) { m.take(f) })
}

// each hands on the memories that f belongs to. In which order plays no part: each has its own facts.
func (n *network) each(f api.Fact, do func(m *memory)) {
	for _, m := range n.memories {
		if m.has(f) {
			do(m)
		}
	}
}

// turned tells whether there is room for what f makes of all matches. If not, they are as they were: turns are gathered first, since only behind all that is lost is it known how much may be gained.
func (n *network) turned(f api.Fact, makes func(s step, m *match) turn) bool {
	c := change{room: n.room, fact: f, makes: makes}
	for _, l := range n.lines {
		c.through(l.first, l.steps)
	}
	if !c.fill() {
		return false
	}
	for _, p := range c.places {
		p.do()
	}
	n.room = c.room
	return true
}
