package rete

import (
	"cmp"
	"slices"

	"ropewalk/api"
)

// kind is what facts of one memory have alike: their type, and constants; at places where there is none a value is zero.
type kind struct {
	of        int
	constants [api.MaxFields]api.Value
}

// split is the kind of the facts that c, which is this package's own, asks for, and what is still to be asked of one of that kind: no constants.
func split(c api.Cond) (kind, api.Cond) {
	k := kind{of: c.Type}
	for i, a := range c.Args {
		if a.Kind == api.ArgConst {
			k.constants[i] = a.Value
			c.Args[i] = api.Arg{Kind: api.ArgAny}
		}
	}
	return k, c
}

// has tells whether f is of that kind.
func (k *kind) has(f api.Fact) bool {
	if f.Type != k.of {
		return false
	}
	for i, v := range f.Args {
		if k.constants[i] != (api.Value{}) && k.constants[i] != v {
			return false
		}
	}
	return true
}

// memory is the facts of one kind, by Id. All conditions that ask for that kind have it together.
type memory struct {
	kind
	facts []api.Fact
}

func (m *memory) put(f api.Fact) {
	at, _ := m.place(f.Id)
	m.facts = slices.Insert(m.facts, at, f)
}

func (m *memory) take(f api.Fact) {
	if at, there := m.place(f.Id); there {
		m.facts = slices.Delete(m.facts, at, at+1)
	}
}

func (m *memory) place(id int) (at int, there bool) {
	return slices.BinarySearchFunc(m.facts, id, func(f api.Fact, id int) int { return cmp.Compare(f.Id, id) })
}
