package rete

import (
	"slices"

	"ropewalk/api"
)

// room is how many matches of rules' first conditions there may still be.
type room struct{ left int }

// grow lays all that begin with m, which is new, as long as there is room.
func (r *room) grow(m *match, steps []step) bool {
	if len(steps) == 0 {
		return true
	}
	return steps[0].each(m, func(next *match) bool {
		m.next = append(m.next, next)
		return r.take() && r.grow(next, steps[1:])
	})
}

func (r *room) take() bool {
	r.left--
	return r.left >= 0
}

// change is a fact that comes or leaves, on its way through all steps.
type change struct {
	room
	fact   api.Fact
	makes  func(s step, m *match) turn
	places []place
}

// place is a match at which the fact makes a turn, and the steps behind that.
type place struct {
	turn
	at    *match
	steps []step
}

// through gathers what the fact makes of those that begin with m. It leaves out those that are lost, since all that begin with them are, too.
func (c *change) through(m *match, steps []step) {
	if !asked(c.fact, steps) {
		return
	}
	t := c.makes(steps[0], m)
	for _, next := range m.next {
		if next != t.lost {
			c.through(next, steps[1:])
		}
	}
	if t == (turn{}) {
		return
	}
	if t.lost != nil {
		c.left += t.lost.size()
	}
	c.places = append(c.places, place{turn: t, at: m, steps: steps[1:]})
}

// fill lays all that begin with those that are gained, as long as there is room.
func (c *change) fill() bool {
	return !slices.ContainsFunc(c.places, func(p place) bool {
		return p.gained != nil && !(c.take() && c.grow(p.gained, p.steps))
	})
}

// do makes the turn.
func (p place) do() {
	p.at.met += p.met
	if p.lost != nil {
		p.at.drop(p.lost)
	}
	if p.gained != nil {
		p.at.add(p.gained)
	}
}
