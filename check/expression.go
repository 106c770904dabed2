package check

import "ropewalk/api"

// progress is how far a part of an expression was looked at.
type progress int

const (
	unmet progress = iota
	begun          // what is below it is looked at
	done
)

// expression tells whether e is one, with all below it. It keeps its way down itself, since an expression may be deeper than calls can be, and looks at each part once, since Kids may be shared, or hold themselves. What is done stays right for all that follows in the rule: its variables stay bound.
func (l *look) expression(e api.Expr) bool {
	way := []*api.Expr{&e}
	for len(way) > 0 {
		last := way[len(way)-1]
		if l.met[last] != unmet {
			l.met[last] = done
			way = way[:len(way)-1]
			continue
		}
		if !l.part(*last) {
			return false
		}
		l.met[last] = begun
		for i := range last.Kids {
			kid := &last.Kids[i]
			if l.met[kid] == begun {
				return false
			}
			way = append(way, kid)
		}
	}
	return true
}

// part asks whether e has what its kind has, and nothing else. Its Kids are not looked at.
func (l *look) part(e api.Expr) bool {
	switch e.Kind {
	case api.ExprConst:
		return partsOf(e) == parts{kind: e.Kind, value: e.Value} && isValue(e.Value)
	case api.ExprVar:
		return partsOf(e) == parts{kind: e.Kind, variable: e.Var} && l.has(e.Var)
	case api.ExprOp:
		return partsOf(e) == parts{kind: e.Kind, op: e.Op, kids: len(e.Kids)} && takes(e.Op, len(e.Kids))
	}
	return false
}

// parts are what an expression has, in a form that can be compared: of its Kids, how many they are.
type parts struct {
	kind     api.ExprKind
	value    api.Value
	variable int
	op       api.Op
	kids     int
}

func partsOf(e api.Expr) parts {
	return parts{e.Kind, e.Value, e.Var, e.Op, len(e.Kids)}
}
