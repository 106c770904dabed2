package rete_test

import (
	"cmp"
	"slices"
	"strings"
	"testing"

	"ropewalk/api"
)

// fill adds facts to both, and holds all matches behind the last one alone.
func (k *pair) fill(facts ...api.Fact) {
	k.Helper()
	mustAdd(k.T, k.net, facts...)
	all := slices.SortedFunc(slices.Values(slices.Concat(k.facts, facts)), func(f, g api.Fact) int { return cmp.Compare(f.Id, g.Id) })
	if err := k.turn(all); err != api.OK {
		k.Fatalf("%d facts: %v", len(all), err)
	}
	k.mustAgree()
}

// filled is a pair of some conditions' rules, whose facts are there.
func filled(t *testing.T, facts []api.Fact, conditions ...string) *pair {
	t.Helper()
	k := pairOf(t, program(t, conditions...))
	k.fill(facts...)
	return k
}

// mustBeFull holds that a fact more is one too many, each time, and that all goes on as if it had never been asked for.
func (k *pair) mustBeFull(f api.Fact) {
	k.Helper()
	if err := k.add(f); err != api.ErrMany {
		k.Errorf("%v beside %d: %v", f, len(k.facts), err)
	}
	last := k.facts[len(k.facts)-1]
	for range 2 {
		mustAnswer(k.T, api.ErrMany, k.net, f)
		mustDropAs(k.T, api.ErrNone, k.net, f.Id)
		k.mustAgree()
		mustDropAs(k.T, api.OK, k.net, last.Id)
		mustAnswer(k.T, api.OK, k.net, last)
		k.mustAgree()
	}
}

// mustTake holds that a fact more is not one too many, that it goes, and comes back.
func (k *pair) mustTake(f api.Fact) {
	k.Helper()
	ahead := k.tokens
	if err := k.add(f); err != api.OK {
		k.Errorf("%v beside %d: %v", f, len(k.facts), err)
	}
	mustDropAs(k.T, api.OK, k.net, f.Id)
	mustTell(k.T, k.net, len(k.facts)-1, ahead...)
	mustAnswer(k.T, api.OK, k.net, f)
	k.mustAgree()
}

// P13.2: exactly as many matches as may be, of one condition, and one more.
func TestManyOfOneCondition(t *testing.T) {
	k := filled(t, many(0, api.MaxTokens-1, pType), "p(_);")
	k.mustTake(p(api.MaxTokens, 1))
	k.mustBeFull(p(api.MaxTokens+1, 1))
	// Those of other types are no matches.
	k.mustTake(q(api.MaxTokens+2, 1))
	k.mustBeFull(p(api.MaxTokens+3, 1))
	mustTell(t, k.net, api.MaxTokens+1, k.tokens...)
	k.drop(17)
	k.mustTake(p(api.MaxTokens+3, 1))
	k.mustBeFull(p(17, 17))
}

// P13.2: matches of a rule's first conditions count, for each of them: of two that ask for any fact there are n + n * n.
func TestManyOfTwoConditions(t *testing.T) {
	facts := slices.Concat(many(0, 63, pType), many(63, 63, qType))
	k := filled(t, facts, "p(_); p(_);", "q(_);") // 63 + 3969 + 63
	k.mustBeFull(p(200, 1))
	k.mustTake(q(201, 1))
	k.mustBeFull(q(202, 1))
	k.mustBeFull(p(202, 1))
	k.mustTake(fact(203, noneType))
	k.drop(5)
	for id := range 126 {
		k.add(q(1000+id, 1)) // 62 + 3844 + 64 + 126
	}
	k.mustBeFull(q(2000, 1))
	k.mustBeFull(p(5, 5))
}

// P13.2: of each condition more that holds there are as many again, be it a CondTest or a CondNot; of what does not hold there are none.
func TestManyOfEachKind(t *testing.T) {
	half := many(0, api.MaxTokens/2-1, pType)
	for _, behind := range []string{"test 1;", "test ?x = ?x;", "not none();", "not q(?x);"} {
		k := filled(t, half, "p(?x);"+behind)
		k.mustTake(p(api.MaxTokens, 3000))
		k.mustBeFull(p(api.MaxTokens+1, 3001))
	}
	most := many(0, api.MaxTokens-1, pType)
	for _, behind := range []string{"test 0;", "test 'a;", "test 1 + 'a;", "test 0; test 1;"} {
		k := filled(t, most, "p(?x);"+behind)
		k.mustTake(p(api.MaxTokens, 1))
		k.mustBeFull(p(api.MaxTokens+1, 1))
		mustTell(t, k.net, api.MaxTokens)
	}
}

// P13.2: conditions ahead of the first one that asks for a fact have one match each, if they hold.
func TestManyBehindOthers(t *testing.T) {
	for _, ahead := range []string{"test 1;", "not none();", "not none(); test 2; not q(_);"} {
		n := strings.Count(ahead, ";")
		k := filled(t, many(0, api.MaxTokens-n-1, pType), ahead+"p(_);")
		k.mustTake(p(api.MaxTokens, 1))
		k.mustBeFull(p(api.MaxTokens+1, 1))
	}
	for _, ahead := range []string{"test 0;", "test 'a;", "not p(1); not p(2);"} {
		k := filled(t, many(0, 2*api.MaxTokens, pType), ahead+"p(_); p(_);")
		mustTell(t, k.net, 2*api.MaxTokens)
	}
}

// P13.2: matches of all rules count together, in whichever rule the last ones are.
func TestManyOfAllRules(t *testing.T) {
	all := slices.Repeat([]string{"p(_);"}, api.MaxRules)
	k := filled(t, many(0, 63, pType), all...)
	k.mustTake(p(64, 1))
	k.mustBeFull(p(65, 1))
	all[0] = "p(_); q(_);"
	k = filled(t, many(0, 64, pType), all...)
	k.mustBeFull(q(65, 1))
	all[1], all[2] = "q(_);", "q(_);"
	filled(t, many(0, 64, pType), all...).mustTake(q(65, 1))
	for at := range 3 {
		three := []string{"p(_);", "p(_);", "p(_);"}
		three[at] += "q(_);"
		k := filled(t, many(0, 1365, pType), three...) // 3 * 1365
		k.mustBeFull(q(2000, 1))
		k.mustBeFull(p(2000, 1))
		three[at] = "p(_); test 0;"
		k = filled(t, many(0, 1365, pType), append(three, "q(_);")...)
		k.mustTake(q(2000, 1))
		k.mustBeFull(q(2001, 1))
	}
}

// P13.2: a rule without conditions has one match, but none of its first k conditions, for k from 1 on.
func TestManyWithoutConditions(t *testing.T) {
	conditions := make([]string, api.MaxRules)
	conditions[17] = "p(_);"
	k := filled(t, many(0, api.MaxTokens-1, pType), conditions...)
	k.mustTake(p(api.MaxTokens, 1))
	k.mustBeFull(p(api.MaxTokens+1, 1))
	if told := k.net.Tokens(); len(told) != api.MaxTokens+api.MaxRules-1 {
		t.Error(len(told))
	}
}

// P13.2: of eight conditions over two facts there are 2 + 4 + .. + 256; over three more than may be, and very many over those behind them.
func TestManyOfMostConditions(t *testing.T) {
	all := strings.Repeat("p(_);", api.MaxConds)
	k := filled(t, many(0, 2, pType), all)
	k.mustBeFull(p(3, 3))
	eight := slices.Repeat([]string{all}, 8) // 8 * 510
	k = filled(t, slices.Concat(many(0, 2, pType), many(2, 15, qType)), append(eight, "q(_);")...)
	k.mustTake(q(18, 1))
	k.mustBeFull(q(19, 1))
	k.mustBeFull(p(19, 1))
	// Behind what does not hold there are none, however many facts there are, till it holds.
	k = filled(t, slices.Concat([]api.Fact{fact(1, noneType)}, many(1, 5000, pType)), "not none();"+strings.Repeat("p(_);", api.MaxConds-1))
	mustTell(t, k.net, 5001)
	for range 3 {
		if err := k.drop(1); err != api.ErrMany {
			t.Error(err)
		}
	}
}

// P13.2: a Drop of what some CondNot is met by may leave too many: then the fact is there still.
func TestManyBehindDrop(t *testing.T) {
	for conditions, fits := range map[string]int{
		"not none(); p(_); p(_);":                   63,   // 1 + n + n * n
		"p(_); p(_); not none();":                   45,   // n + n * n + n * n
		"p(_); not none(); p(_);":                   63,   // n + n + n * n
		"p(?x); not none(); p(?y); test ?x < ?y;":   51,   // n + n + n * n + n * (n - 1) / 2
		"not none(); p(?x); not q(?x);":             2047, // 1 + n + n
		"not none(); not q(_); p(?x); test ?x > 0;": 2047, // 2 + n + n
	} {
		k := filled(t, slices.Concat([]api.Fact{fact(1, noneType)}, many(1, fits, pType)), conditions)
		if err := k.drop(1); err != api.OK {
			t.Errorf("%s: %v", conditions, err)
		}
		k.mustBeFull(p(9000, 9000))
		k.mustTake(fact(1, noneType))
		blocked := k.tokens
		k.mustTake(p(9000, 9000))
		for range 2 {
			if err := k.drop(1); err != api.ErrMany {
				t.Errorf("%s: %v", conditions, err)
			}
			mustAnswer(t, api.ErrThere, k.net, fact(1, noneType))
			if err := k.add(fact(9001, noneType)); err != api.OK {
				t.Errorf("%s: %v", conditions, err)
			}
			if err := k.drop(9001); err != api.OK {
				t.Errorf("%s: %v", conditions, err)
			}
		}
		if err := k.drop(9000); err != api.OK || !same(k.net.Tokens(), blocked) {
			t.Errorf("%s: %v", conditions, err)
		}
		if err := k.drop(1); err != api.OK {
			t.Errorf("%s: %v", conditions, err)
		}
	}
}

// P13.2: what a fact takes away makes room for what it brings, in whichever order the rules stand, as it comes and as it goes.
func TestOneForAnother(t *testing.T) {
	without, with := "not none(); p(_);", "none(); p(_);"
	for _, conditions := range [][]string{{without, with}, {with, without}, {with, "", without}} {
		k := filled(t, many(1, api.MaxTokens-2, pType), conditions...)
		k.mustTake(p(api.MaxTokens, 1))
		k.mustBeFull(p(api.MaxTokens+1, 1))
		k.mustTake(fact(1, noneType)) // 1 + n, as ahead
		k.mustBeFull(p(api.MaxTokens+1, 1))
		k.mustBeFull(fact(api.MaxTokens+1, noneType))
		if err := k.drop(1); err != api.OK {
			t.Error(err)
		}
		k.mustBeFull(p(api.MaxTokens+1, 1))
	}
	// One more of either kind, and the one that is there can't go for the other.
	for _, conditions := range [][]string{{without, with, "none();"}, {"none();", with, without}, {with + "test 1;", without}} {
		k := filled(t, many(1, api.MaxTokens-1, pType), conditions...)
		k.mustBeFull(fact(1, noneType))
	}
	for _, conditions := range [][]string{{without, with, "not none();"}, {"not none();", with, without}} {
		k := filled(t, slices.Concat([]api.Fact{fact(1, noneType)}, many(1, api.MaxTokens-1, pType)), conditions...)
		for range 2 {
			if err := k.drop(1); err != api.ErrMany {
				t.Error(err)
			}
		}
		k.drop(77)
		if err := k.drop(1); err != api.OK {
			t.Error(err)
		}
	}
}

// P13.2: the same within one rule: what comes at one condition makes room for what another one loses.
func TestOneForAnotherInOneRule(t *testing.T) {
	// Of n facts that are no 1 there are n + n * n + n * n, of which the last go with a fact of 1: it brings 1 + (2 * n + 1).
	k := filled(t, many(1, 44, pType), "p(_); p(_); not p(1);") // 44 + 1936 + 1936
	k.mustTake(p(1, 1))
	if told := k.net.Tokens(); len(told) != 0 {
		t.Errorf("%s", brief(told))
	}
	k.mustTake(p(60, 1))
	for id := 100; k.add(p(id, 7)) == api.OK; id++ {
	}
	if n := len(k.facts); n != 63 { // 63 + 3969
		t.Error(n)
	}
	k.drop(60)
	for range 2 {
		if err := k.drop(1); err != api.ErrMany {
			t.Error(err)
		}
	}
	for k.drop(k.facts[len(k.facts)-1].Id) == api.OK && k.drop(1) == api.ErrMany {
	}
	if n := len(k.facts); n != 45 { // 45 + 2025 + 2025
		t.Error(n)
	}
}

// P13.2, P13.4: a refusal leaves nothing, wherever in the rules there is no room any more: what comes and goes then is as if none had been asked for.
func TestBehindRefusals(t *testing.T) {
	conditions := []string{"p(?x); q(?y); test ?x < ?y;", "p(_); p(_);", "not q(3); p(_); p(_);", "p(?x); not q(?x);", "q(_); p(_);"}
	for first := range conditions {
		r := slices.Concat(conditions[first:], conditions[:first])
		k := filled(t, slices.Concat(many(0, 40, pType), []api.Fact{q(101, 3), q(102, 5)}), r...)
		refused := 0
		for id := 200; id < 240; id++ {
			for _, f := range []api.Fact{p(id, int64(id%7)), q(id, int64(id%7)), p(id, 1)} {
				if k.add(f) == api.ErrMany {
					refused++
				}
			}
			if id%9 == 0 {
				k.drop(id - 4)
			}
			if id%5 == 0 && k.drop(101) == api.ErrMany {
				refused++
			}
			k.add(q(101, 3))
		}
		if refused < 20 {
			t.Errorf("%d: %d", first, refused)
		}
		for len(k.facts) > 0 {
			if k.drop(k.facts[len(k.facts)/2].Id) != api.OK {
				k.drop(k.facts[0].Id)
			}
		}
	}
}
