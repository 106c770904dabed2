package rete

import (
	"slices"

	"ropewalk/pattern"
)

// match is one of a rule's first conditions, with the variables as they are there, and those of one condition more that begin with it.
type match struct {
	pattern.Env
	ids  []int
	next []*match // by Ids
	met  int      // by how many facts the condition behind it is met, if that is a CondNot
}

// with is a match of one condition more, which asked for that fact.
func (m *match) with(id int, e pattern.Env) *match {
	return &match{Env: e, ids: m.and(id)}
}

// and is its Ids and one more, which may not stand where its own do.
func (m *match) and(id int) []int {
	return append(slices.Clip(m.ids), id)
}

// on is the match of one condition more, which asked for no fact.
func (m *match) on() *match {
	return &match{Env: m.Env, ids: m.ids}
}

// size is how many matches it is, with all that begin with it.
func (m *match) size() int {
	many := 1
	for _, next := range m.next {
		many += next.size()
	}
	return many
}

// whole tells the Ids of those that begin with it, and are of so many conditions more.
func (m *match) whole(more int, tell func(ids []int)) {
	if more == 0 {
		tell(m.ids)
		return
	}
	for _, next := range m.next {
		next.whole(more-1, tell)
	}
}

// place is where among next that of those Ids stands, or would.
func (m *match) place(ids []int) (at int, there bool) {
	return slices.BinarySearchFunc(m.next, ids, func(next *match, ids []int) int { return slices.Compare(next.ids, ids) })
}

func (m *match) add(next *match) {
	at, _ := m.place(next.ids)
	m.next = slices.Insert(m.next, at, next)
}

func (m *match) drop(next *match) {
	at, _ := m.place(next.ids)
	m.next = slices.Delete(m.next, at, at+1)
}
