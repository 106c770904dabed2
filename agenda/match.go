package agenda

import (
	"cmp"
	"slices"
	"strconv"

	"ropewalk/api"
)

// match is a match, in memory of its own, with its Ids once more, the greatest first.
type match struct {
	api.Token
	sorted []int
}

func matchOf(t api.Token) match {
	t.Ids = slices.Clone(t.Ids)
	sorted := slices.Clone(t.Ids)
	slices.SortFunc(sorted, func(a, b int) int { return cmp.Compare(b, a) })
	return match{t, sorted}
}

func (m match) tell() api.Token {
	return api.Token{Rule: m.Rule, Ids: slices.Clone(m.Ids)}
}

// key is a text that no other match has.
func (m match) key() string {
	b := strconv.AppendInt(nil, int64(m.Rule), 10)
	for _, id := range m.Ids {
		b = strconv.AppendInt(append(b, ' '), int64(id), 10)
	}
	return string(b)
}
