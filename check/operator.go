package check

import "ropewalk/api"

// operator is what an operation of that text and so many Kids is made: these turned about, perhaps.
type operator struct {
	text   string
	kids   int
	op     api.Op
	turned bool
}

var operators = [...]operator{
	{"-", 1, api.OpNeg, false},
	{"not", 1, api.OpNot, false},
	{"+", 2, api.OpAdd, false},
	{"-", 2, api.OpSub, false},
	{"*", 2, api.OpMul, false},
	{"=", 2, api.OpEq, false},
	{"!=", 2, api.OpNe, false},
	{"<", 2, api.OpLt, false},
	{"<=", 2, api.OpLe, false},
	{">", 2, api.OpLt, true},
	{">=", 2, api.OpLe, true},
	{"and", 2, api.OpAnd, false},
	{"or", 2, api.OpOr, false},
}

// operatorOf tells that of a right tree's NodeOp.
func operatorOf(n api.Node) operator {
	for _, o := range operators {
		if o.text == n.Text && o.kids == len(n.Kids) {
			return o
		}
	}
	return operator{}
}

// takes tells whether there is such an op, of so many Kids.
func takes(op api.Op, kids int) bool {
	for _, o := range operators {
		if o.op == op && o.kids == kids {
			return true
		}
	}
	return false
}
