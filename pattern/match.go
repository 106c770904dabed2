package pattern

import (
	"slices"

	"ropewalk/api"
)

// match is an env on its way through facts. It fills the env that it embeds, whose rows are those that were handed in till something is bound.
type match struct {
	Env
	ahead Env
	bound bool
}

// first is the match of c with the first of the facts that is what c asks for under e.
func first(c api.Cond, e Env, facts ...api.Fact) (match, bool) {
	if c.Kind != api.CondFact && c.Kind != api.CondNot || !wellMade(e) {
		return match{}, false
	}
	m := match{Env: e, ahead: e}
	found := slices.ContainsFunc(facts, func(f api.Fact) bool {
		return f.Type == c.Type && len(f.Args) == len(c.Args) && m.through(c.Args, f.Args)
	})
	return m, found
}

// through tells whether all values fit. If one does not, the env is again what it was ahead, since the next fact begins with that.
func (m *match) through(args []api.Arg, values []api.Value) bool {
	for i, a := range args {
		if !m.fits(a, values[i]) {
			m.undo(args[:i])
			return false
		}
	}
	return true
}

func (m *match) fits(a api.Arg, v api.Value) bool {
	switch a.Kind {
	case api.ArgAny:
		return true
	case api.ArgBind:
		return m.bind(a.Var, v)
	case api.ArgVar:
		return m.knows(a.Var) && m.Has[a.Var] && m.Values[a.Var] == v
	case api.ArgConst:
		return a.Value == v
	}
	return false
}

func (m *match) knows(variable int) bool {
	return 0 <= variable && variable < len(m.Has)
}

func (m *match) bind(variable int, v api.Value) bool {
	if !m.knows(variable) {
		return false
	}
	if !m.bound {
		m.Env, m.bound = rows(m.ahead), true
	}
	m.Has[variable], m.Values[variable] = true, v
	return true
}

// undo takes back what args, all of which fitted, have bound.
func (m *match) undo(args []api.Arg) {
	for _, a := range args {
		if a.Kind == api.ArgBind {
			m.Has[a.Var], m.Values[a.Var] = m.ahead.Has[a.Var], m.ahead.Values[a.Var]
		}
	}
}
