package node

import (
	"slices"

	"ropewalk/api"
	"ropewalk/scan"
)

// farthest is how far from 0 a node's number may be.
const farthest = 1<<31 - 1

// Operators of one expression, and of two.
var (
	ofOne = [...]string{"-", "not"}
	ofTwo = [...]string{"or", "and", "=", "!=", "<", "<=", ">", ">=", "+", "-", "*"}
)

// shape is what nodes of a kind have beside their place: a text, a number from low to high, Kids.
type shape struct {
	kind      api.NodeKind
	text      func(string) bool
	low, high int
	kids      func([]api.Node) bool
}

// shapes tells the table's lines. Many stands for any number: no right node has more Kids.
func shapes() []shape {
	const many = api.MaxNodes
	declarations := []api.NodeKind{api.NodeType, api.NodeRule}
	fields := []api.NodeKind{api.NodeField}
	conditions := []api.NodeKind{api.NodeFact, api.NodeNot, api.NodeTest}
	actions := []api.NodeKind{api.NodeAssert, api.NodeRetract, api.NodeSay, api.NodeHalt}
	arguments := []api.NodeKind{api.NodeAny, api.NodeVar, api.NodeNum, api.NodeAtom}
	expressions := []api.NodeKind{api.NodeVar, api.NodeNum, api.NodeAtom, api.NodeOp}
	return []shape{
		{api.NodeProgram, isEmpty, 0, 0, inTurn(0, many, declarations)},
		{api.NodeType, isName, 0, 0, inTurn(0, many, fields)},
		{api.NodeField, isName, 0, 0, inTurn(0, 0)},
		{api.NodeRule, isName, -farthest, farthest, inTurn(0, many, conditions, actions)},
		{api.NodeFact, isName, 0, 0, inTurn(0, many, arguments)},
		{api.NodeNot, isName, 0, 0, inTurn(0, many, arguments)},
		{api.NodeTest, isEmpty, 0, 0, inTurn(1, 1, expressions)},
		{api.NodeAssert, isName, 0, 0, inTurn(0, many, expressions)},
		{api.NodeRetract, isEmpty, 0, farthest, inTurn(0, 0)},
		{api.NodeSay, isEmpty, 0, 0, inTurn(1, many, expressions)},
		{api.NodeHalt, isEmpty, 0, 0, inTurn(0, 0)},
		{api.NodeAny, isEmpty, 0, 0, inTurn(0, 0)},
		{api.NodeVar, isNameOrWord, 0, 0, inTurn(0, 0)},
		{api.NodeNum, isNumber, 0, 0, inTurn(0, 0)},
		{api.NodeAtom, isNameOrWord, 0, 0, inTurn(0, 0)},
		{api.NodeOp, isOfOne, 0, 0, inTurn(1, 1, expressions)},
		{api.NodeOp, isOfTwo, 0, 0, inTurn(2, 2, expressions)},
	}
}

// inTurn makes the question whether Kids are from least to most: first any number of the first row's kinds, then any of the next one's.
func inTurn(least, most int, rows ...[]api.NodeKind) func([]api.Node) bool {
	return func(kids []api.Node) bool {
		if len(kids) < least || len(kids) > most {
			return false
		}
		for _, kinds := range rows {
			for len(kids) > 0 && slices.Contains(kinds, kids[0].Kind) {
				kids = kids[1:]
			}
		}
		return len(kids) == 0
	}
}

func isEmpty(text string) bool {
	return text == ""
}

func isName(text string) bool {
	return tokenOf(text) == api.TokName
}

func isNameOrWord(text string) bool {
	return isName(text) || tokenOf(text) == api.TokWord
}

func isNumber(text string) bool {
	_, is := scan.Number(text)
	return is
}

func isOfOne(text string) bool {
	for _, operator := range ofOne {
		if text == operator {
			return true
		}
	}
	return false
}

func isOfTwo(text string) bool {
	for _, operator := range ofTwo {
		if text == operator {
			return true
		}
	}
	return false
}

// tokenOf tells which kind of token all of text is: none, if blanks or a sign for its kind are with it.
func tokenOf(text string) api.TokenKind {
	tokens, _ := scan.Tokens(text)
	if len(tokens) == 0 || tokens[0].Text != text {
		return 0
	}
	return tokens[0].Kind
}
