package show

import "ropewalk/api"

// How strongly expressions bind.
const (
	or = iota + 1
	and
	comparison
	sum
	product
	ofOne
	single
)

func binds(n api.Node) int {
	switch {
	case n.Kind != api.NodeOp:
		return single
	case len(n.Kids) == 1:
		return ofOne
	}
	switch n.Text {
	case "or":
		return or
	case "and":
		return and
	case "+", "-":
		return sum
	case "*":
		return product
	}
	return comparison
}

// expression writes one that may be of any kind where it stands.
func (w *writer) expression(n api.Node) {
	w.binding(n, or)
}

// binding writes an expression where one that binds at least so strongly is asked for.
func (w *writer) binding(n api.Node, least int) {
	if binds(n) >= least {
		w.bare(n)
		return
	}
	w.write("(")
	w.bare(n)
	w.write(")")
}

// bare writes an expression without brackets around the whole.
func (w *writer) bare(n api.Node) {
	switch own := binds(n); own {
	case single:
		w.single(n)
	case ofOne:
		w.operationOfOne(n)
	case comparison:
		// A source has no comparison right behind another one, on either side.
		w.operation(n, own+1)
	default:
		w.operation(n, own)
	}
}

func (w *writer) operationOfOne(n api.Node) {
	w.write(n.Text)
	if n.Text == "not" {
		w.write(" ")
	}
	w.binding(n.Kids[0], ofOne)
}

// operation writes an operator between two expressions. The first one must bind at least so strongly as is said, the second one more than the operator, since rows are read from the left.
func (w *writer) operation(n api.Node, first int) {
	w.binding(n.Kids[0], first)
	w.write(" ", n.Text, " ")
	w.binding(n.Kids[1], binds(n)+1)
}
