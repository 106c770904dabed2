package naive_test

import (
	"slices"
	"strings"
	"testing"

	"ropewalk/api"
)

// mustCount holds how many matches are told, or that there are too many, where want is below 0.
func mustCount(t *testing.T, want int, r api.Rules, facts []api.Fact) {
	t.Helper()
	if want < 0 {
		mustRefuse(t, api.ErrMany, r, facts...)
		return
	}
	told, err := tell(t, r, facts)
	if err != api.OK || len(told) != want {
		t.Errorf("%s: %d, %v, not %d", brief(facts), len(told), err, want)
	}
}

// P12.1: exactly as many matches as may be, of one condition, and one more.
func TestManyOfOneCondition(t *testing.T) {
	r := program(t, "p(_);")
	facts := many(0, api.MaxTokens, pType)
	mustCount(t, api.MaxTokens, r, facts)
	mustCount(t, api.MaxTokens-1, r, facts[1:])
	mustCount(t, -1, r, many(0, api.MaxTokens+1, pType))
	mustCount(t, -1, r, many(0, 2*api.MaxTokens, pType))
	// Those of other types are no matches.
	mustCount(t, api.MaxTokens, r, slices.Concat(facts, many(api.MaxTokens, 3, qType)))
}

// P12.1: matches of a rule's first conditions count, for each of them: of two that ask for any fact there are n + n * n.
func TestManyOfTwoConditions(t *testing.T) {
	r := program(t, "p(_); p(_);", "q(_);")
	facts := many(0, 63, pType) // 63 + 3969
	mustCount(t, 3969+64, r, slices.Concat(facts, many(63, 64, qType)))
	mustCount(t, -1, r, slices.Concat(facts, many(63, 65, qType)))
	mustCount(t, -1, program(t, "p(_); p(_);"), many(0, 64, pType))
	mustCount(t, 3969, program(t, "p(_); p(_);"), facts)
}

// P12.1: of each condition more that holds there are as many again, be it a CondTest, a CondNot or one for a fact.
func TestManyOfEachKind(t *testing.T) {
	half := many(0, api.MaxTokens/2, pType)
	more := slices.Concat(half, []api.Fact{p(api.MaxTokens, 1)})
	for _, behind := range []string{"test 1;", "test ?x = ?x;", "not none();", "not q(?x);"} {
		mustCount(t, api.MaxTokens/2, program(t, "p(?x);"+behind), half)
		mustCount(t, -1, program(t, "p(?x);"+behind), more)
	}
	// What holds of none has no matches.
	for _, behind := range []string{"test 0;", "test 'a;", "test 1 + 'a;"} {
		facts := many(0, api.MaxTokens, pType)
		mustCount(t, 0, program(t, "p(?x);"+behind), facts)
		mustCount(t, 0, program(t, "p(?x);"+behind+"test 1; not none();"), facts)
		mustCount(t, -1, program(t, "p(?x);"+behind), many(0, api.MaxTokens+1, pType))
	}
	// Conditions ahead of the first one that asks for a fact have one match each.
	for _, ahead := range []string{"test 1;", "not none();"} {
		mustCount(t, api.MaxTokens-1, program(t, ahead+"p(_);"), many(0, api.MaxTokens-1, pType))
		mustCount(t, -1, program(t, ahead+"p(_);"), many(0, api.MaxTokens, pType))
		mustCount(t, api.MaxTokens-3, program(t, strings.Repeat(ahead, 3)+"p(_);"), many(0, api.MaxTokens-3, pType))
		mustCount(t, -1, program(t, strings.Repeat(ahead, 3)+"p(_);"), many(0, api.MaxTokens-2, pType))
	}
	for _, ahead := range []string{"test 0;", "not p(_);"} {
		mustCount(t, 0, program(t, ahead+"p(_); p(_);"), many(0, 2*api.MaxTokens, pType))
	}
}

// P12.1: a later condition that leaves none takes away no match of the first ones.
func TestManyAheadOfNone(t *testing.T) {
	enough := many(0, 63, pType)
	for _, behind := range []string{"test 0;", "q(_);", "none();", "not p(_);", "not p(?y);", "p(?x); test ?x < ?x;"} {
		if !strings.HasPrefix(behind, "p") {
			mustCount(t, 0, program(t, "p(_); p(?y);"+behind), enough)
		}
		mustCount(t, -1, program(t, "p(_); p(?y);"+behind), many(0, 64, pType))
	}
	mustCount(t, -1, program(t, "p(_); p(_); p(_); test 0;"), many(0, 16, pType)) // 16 + 256 + 4096
	mustCount(t, 0, program(t, "p(_); p(_); p(_); test 0;"), many(0, 15, pType))  // 15 + 225 + 3375
	// Whether the conditions that leave few stand ahead makes the difference.
	facts := slices.Concat(many(0, 100, pType), []api.Fact{q(101, 7)})
	mustCount(t, 1, program(t, "q(?x); p(?x); p(?x);"), facts)
	mustCount(t, -1, program(t, "p(?x); p(?y); q(?x); test ?x = ?y;"), facts)
}

// P12.1: of a condition that is joined, those that match count alone.
func TestManyOfJoined(t *testing.T) {
	mustCount(t, api.MaxTokens/2, program(t, "p(?x); p(?x);"), many(0, api.MaxTokens/2, pType))
	mustCount(t, -1, program(t, "p(?x); p(?x);"), many(0, api.MaxTokens/2+1, pType))
}

// P12.1: matches of all rules count together, in whichever rule the last ones are.
func TestManyOfAllRules(t *testing.T) {
	var conditions []string
	for range api.MaxRules {
		conditions = append(conditions, "p(_);")
	}
	r := program(t, conditions...)
	mustCount(t, api.MaxTokens, r, many(0, 64, pType))
	mustCount(t, -1, r, many(0, 65, pType))
	conditions[0] = "p(_); q(_);"
	mustCount(t, -1, program(t, conditions...), slices.Concat(many(0, 64, pType), many(64, 1, qType)))
	conditions[1], conditions[2] = "q(_);", "q(_);"
	mustCount(t, 61*64+64+2, program(t, conditions...), slices.Concat(many(0, 64, pType), many(64, 1, qType)))
	for at := range 3 {
		three := []string{"p(_);", "p(_);", "p(_);"}
		facts := slices.Concat(many(0, 1365, pType), many(1365, 1, qType)) // 3 * 1365 + 1
		three[at] += "q(_);"
		mustCount(t, -1, program(t, three...), facts)
		three[at] = "p(_); test 0;"
		mustCount(t, 2*1365, program(t, three...), facts)
		three = append(three, "q(_);")
		mustCount(t, 2*1365+1, program(t, three...), facts)
		three = append(three, "q(_);")
		mustCount(t, -1, program(t, three...), facts)
	}
}

// P12.1: a rule without conditions has one match, but none of its first k conditions, for k from 1 on.
func TestManyWithoutConditions(t *testing.T) {
	conditions := make([]string, api.MaxRules)
	conditions[17] = "p(_);"
	r := program(t, conditions...)
	mustCount(t, api.MaxTokens+api.MaxRules-1, r, many(0, api.MaxTokens, pType))
	mustCount(t, -1, r, many(0, api.MaxTokens+1, pType))
}

// P12.1: of eight conditions over two facts there are 2 + 4 + .. + 256; over three more than may be.
func TestManyOfMostConditions(t *testing.T) {
	all := strings.Repeat("p(_);", api.MaxConds)
	mustCount(t, 256, program(t, all), many(0, 2, pType))
	mustCount(t, -1, program(t, all), many(0, 3, pType))
	eight := []string{all, all, all, all, all, all, all, all} // 8 * 510
	mustCount(t, 8*256, program(t, eight...), many(0, 2, pType))
	facts := slices.Concat(many(0, 2, pType), many(2, 16, qType))
	mustCount(t, 8*256+16, program(t, append(eight, "q(_);")...), facts)
	mustCount(t, -1, program(t, append(eight, "q(_);")...), append(facts, q(20, 1)))
	mustCount(t, -1, program(t, append(eight, "q(_);", "q(3);")...), facts)
}

// P12.1: facts that are not right are told ahead of too many matches.
func TestNotRightAheadOfTooMany(t *testing.T) {
	r := program(t, "p(_);")
	facts := many(0, api.MaxTokens+1, pType)
	mustRefuse(t, api.ErrArg, r, append(facts, p(api.MaxTokens+1, 1))...)
	mustRefuse(t, api.ErrArg, r, append(facts, p(api.MaxId+1, 1))...)
	mustRefuse(t, api.ErrArg, r, append(facts, fact(api.MaxTokens+2, pType))...)
	mustRefuse(t, api.ErrMany, r, append(facts, p(api.MaxId, 1))...)
	r.Rules[0].Vars = 1
	mustRefuse(t, api.ErrArg, r, facts...)
}

// P12.2: a match has its variables, however many others there are.
func TestVarsOfTooMany(t *testing.T) {
	r := program(t, "p(?x); p(?y); p(?z); test ?x < ?z;")
	facts := many(0, 300, pType)
	mustRefuse(t, api.ErrMany, r, facts...)
	mustHave(t, r, token(0, 1, 300, 2), facts, numbers(1, 300, 2)...)
	mustHave(t, r, token(0, 299, 300, 300), facts, numbers(299, 300, 300)...)
	mustNotHave(t, r, token(0, 300, 1, 300), facts...)
	mustNotHave(t, r, token(0, 1, 301, 300), facts...)
	// As many conditions as may be, each of which holds on the one way.
	all := strings.Repeat("p(_);", api.MaxConds)
	mustHave(t, program(t, all), token(0, 1, 2, 3, 4, 5, 6, 7, 300), facts)
}

// R4: a call that ended since there were too many leaves nothing to the next one.
func TestBehindTooMany(t *testing.T) {
	r := program(t, "p(_); p(_);")
	facts := many(0, 64, pType)
	for range 3 {
		mustCount(t, -1, r, facts)
		mustCount(t, 63*63, r, facts[1:])
		mustHave(t, r, token(0, 64, 1), facts)
	}
}
