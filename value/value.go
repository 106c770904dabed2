// Package value is layer 1: numbers and names, and what operators make of them.
package value

import (
	"cmp"
	"strconv"
	"strings"

	"ropewalk/api"
)

// Right tells whether v is a number without a text, or a name without a number.
func Right(v api.Value) bool {
	switch v.Kind {
	case api.Int:
		return v.Text == ""
	case api.Name:
		return v.Num == 0 && named(v.Text)
	}
	return false
}

// Compare puts numbers ahead of names. It answers 0, too, where one of both is not right, as such values have no order.
func Compare(a, b api.Value) int {
	if !Right(a) || !Right(b) {
		return 0
	}
	// Right numbers have one Text, right names one Num, so that what a kind does not use never decides.
	return cmp.Or(cmp.Compare(a.Kind, b.Kind), cmp.Compare(a.Num, b.Num), strings.Compare(a.Text, b.Text))
}

// Text writes v as a source does.
func Text(v api.Value) string {
	if !Right(v) {
		return ""
	}
	if isName(v) {
		return "'" + v.Text
	}
	return strconv.FormatInt(v.Num, 10)
}

// Truth is the number that stands for is.
func Truth(is bool) api.Value {
	if is {
		return number(1)
	}
	return number(0)
}

func number(n int64) api.Value {
	return api.Value{Kind: api.Int, Num: n}
}

func wrong(v api.Value) bool {
	return !Right(v)
}

func isName(v api.Value) bool {
	return v.Kind == api.Name
}

func named(s string) bool {
	if s == "" || len(s) > api.MaxName || !isLetter(s[0]) {
		return false
	}
	for i := range len(s) {
		if c := s[i]; !isLetter(c) && !isDigit(c) && c != '_' {
			return false
		}
	}
	return true
}

func isLetter(c byte) bool {
	return 'a' <= c && c <= 'z'
}

func isDigit(c byte) bool {
	return '0' <= c && c <= '9'
}
