package agenda

import (
	"cmp"
	"slices"

	"ropewalk/api"
)

// order is the rules' saliences, by which one match stands ahead of another.
type order struct{ saliences []int }

func orderOf(r api.Rules) order {
	var o order
	for _, rule := range r.Rules {
		o.saliences = append(o.saliences, rule.Salience)
	}
	return o
}

func (o order) has(rule int) bool {
	return rule >= 0 && rule < len(o.saliences)
}

func (o order) salience(rule int) int {
	if !o.has(rule) {
		return 0
	}
	return o.saliences[rule]
}

// compare is below 0, if a stands ahead of b, and 0 only if they are the same.
func (o order) compare(a, b match) int {
	return cmp.Or(
		cmp.Compare(o.salience(b.Rule), o.salience(a.Rule)),
		slices.Compare(b.sorted, a.sorted),
		cmp.Compare(a.Rule, b.Rule),
		slices.Compare(a.Ids, b.Ids),
	)
}

// row is the matches, each ahead of the next one. It is not right, if one's rule is none, or if two are the same, which stand side by side then.
func (o order) row(tokens ...api.Token) (row []match, right bool) {
	for _, t := range tokens {
		if !o.has(t.Rule) {
			return nil, false
		}
		row = append(row, matchOf(t))
	}
	slices.SortFunc(row, o.compare)
	for i := 1; i < len(row); i++ {
		if o.compare(row[i-1], row[i]) == 0 {
			return nil, false
		}
	}
	return row, true
}
