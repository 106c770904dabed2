package agenda

import (
	"maps"
	"slices"

	"ropewalk/api"
)

// list is the matches that hold: those that were not fired, each ahead of the next one, and those that were, by their keys.
type list struct {
	order
	waiting []match
	fired   map[string]match
}

func begin(r api.Rules) *list {
	return &list{order: orderOf(r), fired: map[string]match{}}
}

// hold makes just row hold. Of those that were fired it keeps what holds still.
func (l *list) hold(row []match) {
	var waiting []match
	fired := map[string]match{}
	for _, m := range row {
		key := m.key()
		if _, was := l.fired[key]; was {
			fired[key] = m
		} else {
			waiting = append(waiting, m)
		}
	}
	l.waiting, l.fired = waiting, fired
}

// place is where m waits, or would.
func (l *list) place(m match) (at int, waits bool) {
	return slices.BinarySearchFunc(l.waiting, m, l.compare)
}

// fire moves those up that stand ahead of the one at that place: mostly there are none.
func (l *list) fire(at int) {
	m := l.waiting[at]
	copy(l.waiting[1:], l.waiting[:at])
	l.waiting = l.waiting[1:]
	l.fired[m.key()] = m
}

// spent is what was fired, each ahead of the next one.
func (l *list) spent() []match {
	return slices.SortedFunc(maps.Values(l.fired), l.compare)
}
