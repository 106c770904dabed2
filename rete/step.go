package rete

import (
	"slices"

	"ropewalk/api"
	"ropewalk/expr"
	"ropewalk/pattern"
)

// step is a condition of a rule, behind matches of those ahead of it.
type step interface {
	// has tells whether f plays a part.
	has(f api.Fact) bool
	// each hands on the matches of one condition more than m, which is new, over all facts that are there, as long as do tells to go on.
	each(m *match, do func(next *match) (goOn bool)) (all bool)
	// come tells what f, which is new, makes of those behind m.
	come(m *match, f api.Fact) turn
	// leave tells what is made of them by f, which is gone.
	leave(m *match, f api.Fact) turn
}

// turn is what a fact that comes or leaves makes of a match m: there is one less of one condition more, or one more, or none of both.
type turn struct {
	lost, gained *match
	met          int // what is added to m's
}

// join asks for a fact of its memory.
type join struct {
	*memory
	asks api.Cond // beside the constants, which the memory has asked for
}

func (j join) each(m *match, do func(next *match) bool) bool {
	for _, f := range j.facts {
		if next := j.with(m, f); next != nil && !do(next) {
			return false
		}
	}
	return true
}

// with is nil, if f is not what is asked for behind m.
func (j join) with(m *match, f api.Fact) *match {
	e, fits := pattern.Match(j.asks, f, m.Env)
	if !fits {
		return nil
	}
	return m.with(f.Id, e)
}

func (j join) come(m *match, f api.Fact) turn {
	if !j.has(f) {
		return turn{}
	}
	return turn{gained: j.with(m, f)}
}

func (j join) leave(m *match, f api.Fact) turn {
	at, there := m.place(m.and(f.Id))
	if !there {
		return turn{}
	}
	return turn{lost: m.next[at]}
}

// negation asks that no fact of its memory be such.
type negation struct {
	*memory
	asks api.Cond
}

func (n negation) each(m *match, do func(next *match) bool) bool {
	for _, f := range n.facts {
		if n.met(m, f) {
			m.met++
		}
	}
	return m.met > 0 || do(m.on())
}

// met tells whether f is what may not be behind m.
func (n negation) met(m *match, f api.Fact) bool {
	return n.has(f) && pattern.Some(n.asks, m.Env, f)
}

func (n negation) come(m *match, f api.Fact) turn {
	if !n.met(m, f) {
		return turn{}
	}
	t := turn{met: 1}
	if m.met == 0 {
		t.lost = m.next[0]
	}
	return t
}

func (n negation) leave(m *match, f api.Fact) turn {
	if !n.met(m, f) {
		return turn{}
	}
	t := turn{met: -1}
	if m.met == 1 {
		t.gained = m.on()
	}
	return t
}

// test asks that what it says be a number, and not 0. No fact plays a part.
type test struct{ says api.Expr }

func (t test) has(api.Fact) bool { return false }

func (t test) each(m *match, do func(next *match) bool) bool {
	v, err := expr.Eval(t.says, m.Values)
	if err != api.OK || v.Kind != api.Int || v.Num == 0 {
		return true
	}
	return do(m.on())
}

func (t test) come(*match, api.Fact) turn { return turn{} }

func (t test) leave(*match, api.Fact) turn { return turn{} }

// asked tells whether f plays a part at one of the steps.
func asked(f api.Fact, steps []step) bool {
	return slices.ContainsFunc(steps, func(s step) bool { return s.has(f) })
}
