package show

import (
	"slices"
	"strconv"
	"strings"

	"ropewalk/api"
)

// writer writes nodes of a right program: none is asked for again whether it may stand where it does.
type writer struct{ strings.Builder }

func (w *writer) write(texts ...string) {
	for _, text := range texts {
		w.WriteString(text)
	}
}

// each writes nodes with one, end behind every one of them.
func (w *writer) each(nodes []api.Node, one func(api.Node), end string) {
	for _, n := range nodes {
		one(n)
		w.write(end)
	}
}

// row writes nodes with one, commas between them.
func (w *writer) row(nodes []api.Node, one func(api.Node)) {
	for i, n := range nodes {
		if i > 0 {
			w.write(", ")
		}
		one(n)
	}
}

// named writes what a node is called, and its Kids in brackets, which stand there without Kids, too.
func (w *writer) named(n api.Node, kid func(api.Node)) {
	w.write(n.Text, "(")
	w.row(n.Kids, kid)
	w.write(")")
}

func (w *writer) declaration(n api.Node) {
	switch n.Kind {
	case api.NodeType:
		w.write("fact ")
		w.named(n, w.field)
		w.write(";")
	case api.NodeRule:
		w.rule(n)
	}
}

func (w *writer) field(n api.Node) {
	w.write(n.Text)
}

func (w *writer) rule(n api.Node) {
	w.write("rule ", n.Text)
	if n.Num != 0 {
		w.write(" salience ", strconv.Itoa(n.Num))
	}
	conditions, actions := halves(n.Kids)
	w.write(" { ")
	w.each(conditions, w.part, " ")
	w.write("=> ")
	w.each(actions, w.part, " ")
	w.write("}")
}

// halves tells a rule's conditions, and its actions, which all stand behind these.
func halves(kids []api.Node) (conditions, actions []api.Node) {
	first := slices.IndexFunc(kids, isAction)
	if first < 0 {
		return kids, nil
	}
	return kids[:first], kids[first:]
}

func isAction(n api.Node) bool {
	switch n.Kind {
	case api.NodeAssert, api.NodeRetract, api.NodeSay, api.NodeHalt:
		return true
	}
	return false
}

// part writes a condition or an action.
func (w *writer) part(n api.Node) {
	switch n.Kind {
	case api.NodeFact:
		w.named(n, w.single)
	case api.NodeNot:
		w.write("not ")
		w.named(n, w.single)
	case api.NodeTest:
		w.write("test ")
		w.row(n.Kids, w.expression)
	case api.NodeAssert:
		w.write("assert ")
		w.named(n, w.expression)
	case api.NodeRetract:
		w.write("retract ", strconv.Itoa(n.Num))
	case api.NodeSay:
		w.write("say ")
		w.row(n.Kids, w.expression)
	case api.NodeHalt:
		w.write("halt")
	}
	w.write(";")
}

// single writes an argument of a condition, or an expression without Kids.
func (w *writer) single(n api.Node) {
	switch n.Kind {
	case api.NodeAny:
		w.write("_")
	case api.NodeVar:
		w.write("?", n.Text)
	case api.NodeNum:
		w.write(n.Text)
	case api.NodeAtom:
		w.write("'", n.Text)
	}
}
