package rete

import (
	"slices"
	"strings"

	"ropewalk/api"
)

// own and its like are what is handed in, in memory of its own, with texts of its own.
func own(f api.Fact) api.Fact {
	f.Args = slices.Clone(f.Args)
	for i := range f.Args {
		f.Args[i] = ownValue(f.Args[i])
	}
	return f
}

func ownValue(v api.Value) api.Value {
	v.Text = strings.Clone(v.Text)
	return v
}

func ownTypes(types []api.Type) []api.Type {
	types = slices.Clone(types)
	for i := range types {
		types[i].Name = strings.Clone(types[i].Name)
	}
	return types
}

func ownCond(c api.Cond) api.Cond {
	c.Args = slices.Clone(c.Args)
	for i := range c.Args {
		c.Args[i].Value = ownValue(c.Args[i].Value)
	}
	c.Test = ownExpr(c.Test)
	return c
}

// ownExpr goes from row to row by a list, since an expression may be deeper than calls can be. A row that several have is copied once: else there might be no end of them.
func ownExpr(e api.Expr) api.Expr {
	top := []api.Expr{e}
	c := copies{rows: map[row][]api.Expr{}, open: [][]api.Expr{top}}
	for len(c.open) > 0 {
		last := len(c.open) - 1
		kids := c.open[last]
		c.open = c.open[:last]
		for i := range kids {
			kids[i].Value = ownValue(kids[i].Value)
			kids[i].Kids = c.of(kids[i].Kids)
		}
	}
	return top[0]
}

// copies are of rows of Kids, by where those begin, and how many they are; those that are open have still to have Kids of their own.
type copies struct {
	rows map[row][]api.Expr
	open [][]api.Expr
}

type row struct {
	first *api.Expr
	many  int
}

func (c *copies) of(kids []api.Expr) []api.Expr {
	if len(kids) == 0 {
		return nil
	}
	r := row{&kids[0], len(kids)}
	told, met := c.rows[r]
	if !met {
		told = slices.Clone(kids)
		c.rows[r] = told
		c.open = append(c.open, told)
	}
	return told
}
