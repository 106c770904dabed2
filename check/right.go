package check

import (
	"slices"

	"ropewalk/api"
	"ropewalk/scan"
)

// Right tells whether r is right. All that Make tells is, but not all that is can a tree say: a number below 0 in an expression, say, or a word as a type's name.
func Right(r api.Rules) bool {
	return len(r.Types) <= api.MaxTypes && areTypes(r.Types) && len(r.Rules) <= api.MaxRules && areRules(r.Rules, r.Types)
}

func areTypes(types []api.Type) bool {
	var names table
	return all(types, func(t api.Type) bool {
		return names.take(t.Name) && 0 <= t.Fields && t.Fields <= api.MaxFields
	})
}

func areRules(rules []api.Rule, types []api.Type) bool {
	var names table
	return all(rules, func(r api.Rule) bool {
		l := look{types: types, met: map[*api.Expr]progress{}}
		return names.take(r.Name) && l.rule(r)
	})
}

// take makes a name known, and tells whether it is one, and was not known.
func (t *table) take(name string) bool {
	if !isName(name) || t.known(name) {
		return false
	}
	t.add(name)
	return true
}

// look goes through a rule, from left to right.
type look struct {
	types []api.Type
	bound int                    // variables, so far
	facts int                    // conditions that ask for a fact, so far
	met   map[*api.Expr]progress // operations in expressions
}

func (l *look) rule(r api.Rule) bool {
	return -api.MaxSalience <= r.Salience && r.Salience <= api.MaxSalience &&
		len(r.Conds) <= api.MaxConds && all(r.Conds, l.condition) &&
		len(r.Acts) <= api.MaxActs && all(r.Acts, l.action) &&
		r.Vars == l.bound && r.Vars <= api.MaxVars
}

func (l *look) condition(c api.Cond) bool {
	switch c.Kind {
	case api.CondFact:
		l.facts++
		return l.fits(c.Type, len(c.Args)) && all(c.Args, l.argument) && partsOf(c.Test) == parts{}
	case api.CondNot:
		return l.fits(c.Type, len(c.Args)) && !slices.ContainsFunc(c.Args, binds) && all(c.Args, l.argument) && partsOf(c.Test) == parts{}
	case api.CondTest:
		return c.Type == 0 && len(c.Args) == 0 && l.expression(c.Test)
	}
	return false
}

func binds(a api.Arg) bool {
	return a.Kind == api.ArgBind
}

// argument asks whether a has what its kind has, and nothing else.
func (l *look) argument(a api.Arg) bool {
	switch a.Kind {
	case api.ArgAny:
		return a == api.Arg{Kind: a.Kind}
	case api.ArgBind:
		l.bound++
		return a == api.Arg{Kind: a.Kind, Var: l.bound - 1}
	case api.ArgVar:
		return a == api.Arg{Kind: a.Kind, Var: a.Var} && l.has(a.Var)
	case api.ArgConst:
		return a == api.Arg{Kind: a.Kind, Value: a.Value} && isValue(a.Value)
	}
	return false
}

func (l *look) action(a api.Act) bool {
	switch a.Kind {
	case api.ActAssert:
		return a.Which == 0 && l.fits(a.Type, len(a.Exprs)) && all(a.Exprs, l.expression)
	case api.ActRetract:
		return a.Type == 0 && 0 <= a.Which && a.Which < l.facts && len(a.Exprs) == 0
	case api.ActSay:
		return a.Type == 0 && a.Which == 0 && len(a.Exprs) > 0 && all(a.Exprs, l.expression)
	case api.ActHalt:
		return a.Type == 0 && a.Which == 0 && len(a.Exprs) == 0
	}
	return false
}

// fits tells whether there is a type at that place, of so many fields.
func (l *look) fits(place, fields int) bool {
	return 0 <= place && place < len(l.types) && l.types[place].Fields == fields
}

// has tells whether a variable is bound.
func (l *look) has(variable int) bool {
	return 0 <= variable && variable < l.bound
}

func isValue(v api.Value) bool {
	switch v.Kind {
	case api.Int:
		return v.Text == ""
	case api.Name:
		return v.Num == 0 && isName(v.Text)
	}
	return false
}

// isName tells whether a value may be named so: behind its sign, text is all of an atom then, a word as well as another name.
func isName(text string) bool {
	if len(text) > api.MaxName {
		return false
	}
	tokens, _ := scan.Tokens("'" + text)
	return len(tokens) > 0 && tokens[0].Text == text
}

// all asks of one after the other, as what is asked of one may hang on those ahead.
func all[T any](row []T, is func(T) bool) bool {
	for _, one := range row {
		if !is(one) {
			return false
		}
	}
	return true
}
