package naive_test

import (
	"fmt"
	"reflect"
	"slices"
	"strings"
	"testing"

	"ropewalk/api"
	"ropewalk/check"
	"ropewalk/naive"
)

func number(n int64) api.Value { return api.Value{Kind: api.Int, Num: n} }

func name(text string) api.Value { return api.Value{Kind: api.Name, Text: text} }

func numbers(l ...int64) []api.Value {
	var values []api.Value
	for _, n := range l {
		values = append(values, number(n))
	}
	return values
}

func fact(id, kind int, args ...api.Value) api.Fact {
	return api.Fact{Id: id, Type: kind, Args: args}
}

// many is so many facts of a type, each of the number of its Id, behind an Id.
func many(behind, n, kind int) []api.Fact {
	var l []api.Fact
	for i := range n {
		l = append(l, fact(behind+1+i, kind, number(int64(behind+1+i))))
	}
	return l
}

func token(rule int, ids ...int) api.Token { return api.Token{Rule: rule, Ids: ids} }

func tokens(rule int, ids ...[]int) []api.Token {
	var l []api.Token
	for _, row := range ids {
		l = append(l, token(rule, row...))
	}
	return l
}

func rulesOf(t *testing.T, source string) api.Rules {
	t.Helper()
	r, fault := check.Source(source)
	if fault.Err != api.OK {
		t.Fatalf("%s: %v", source, fault)
	}
	return r
}

// program is the rules of some conditions, over the types that most tests use.
func program(t *testing.T, conditions ...string) api.Rules {
	t.Helper()
	var b strings.Builder
	b.WriteString("fact none(); fact p(a); fact q(a); fact e(a, b);")
	for i, c := range conditions {
		fmt.Fprintf(&b, "rule r%d { %s => halt; }", i, c)
	}
	return rulesOf(t, b.String())
}

// Places of program's types.
const (
	noneType = 0
	pType    = 1
	qType    = 2
	eType    = 3
)

func p(id int, v int64) api.Fact { return fact(id, pType, number(v)) }

func q(id int, v int64) api.Fact { return fact(id, qType, number(v)) }

func e(id int, v, w int64) api.Fact { return fact(id, eType, number(v), number(w)) }

func brief(facts []api.Fact) string {
	if len(facts) > 12 {
		return fmt.Sprintf("%d facts", len(facts))
	}
	return fmt.Sprint(facts)
}

func same(l, m []api.Token) bool {
	return slices.EqualFunc(l, m, func(a, b api.Token) bool { return a.Rule == b.Rule && slices.Equal(a.Ids, b.Ids) })
}

func copiedFacts(l []api.Fact) []api.Fact {
	told := slices.Clone(l)
	for i, f := range l {
		told[i].Args = slices.Clone(f.Args)
	}
	return told
}

// tell tells what Tokens tells, once it was asked twice and what was handed in is as it was.
func tell(t *testing.T, r api.Rules, facts []api.Fact) ([]api.Token, api.Errno) {
	t.Helper()
	begun := copiedFacts(facts)
	told, err := naive.Tokens(r, facts...)
	again, other := naive.Tokens(r, facts...)
	if !same(told, again) || err != other {
		t.Errorf("%s: %v, %v and then %v, %v", brief(facts), told, err, again, other)
	}
	if !reflect.DeepEqual(facts, begun) {
		t.Errorf("%s were %s", brief(facts), brief(begun))
	}
	return told, err
}

func mustTell(t *testing.T, r api.Rules, facts []api.Fact, want ...api.Token) {
	t.Helper()
	told, err := tell(t, r, facts)
	if err != api.OK || !same(told, want) {
		t.Errorf("%s: %v, %v, not %v", brief(facts), told, err, want)
	}
}

func mustRefuse(t *testing.T, want api.Errno, r api.Rules, facts ...api.Fact) {
	t.Helper()
	told, err := tell(t, r, facts)
	if err != want || told != nil {
		t.Errorf("%s: %v, %v, not %v", brief(facts), told, err, want)
	}
}

// mustHave holds what Vars tells.
func mustHave(t *testing.T, r api.Rules, k api.Token, facts []api.Fact, want ...api.Value) {
	t.Helper()
	begun, ids := copiedFacts(facts), slices.Clone(k.Ids)
	for range 2 {
		told, is := naive.Vars(r, k, facts...)
		if !is || !slices.Equal(told, want) {
			t.Errorf("%v, %s: %v, %v, not %v", k, brief(facts), told, is, want)
		}
	}
	if !reflect.DeepEqual(facts, begun) || !slices.Equal(k.Ids, ids) {
		t.Errorf("%v, %s were %v, %s", k, brief(facts), ids, brief(begun))
	}
}

func mustNotHave(t *testing.T, r api.Rules, k api.Token, facts ...api.Fact) {
	t.Helper()
	told, is := naive.Vars(r, k, facts...)
	if is || told != nil {
		t.Errorf("%v, %s: %v, %v", k, brief(facts), told, is)
	}
}

// P12.1, P12.2: the chapter's example.
func TestChapter(t *testing.T) {
	r := rulesOf(t, "fact p(a, b); rule r { p(?x, 1); p(?x, ?y); => assert p(?y, ?x + 1); retract 2; }")
	facts := []api.Fact{fact(1, 0, numbers(1, 1)...), fact(2, 0, numbers(1, 2)...)}
	mustTell(t, r, facts, token(0, 1, 1), token(0, 1, 2))
	mustHave(t, r, token(0, 1, 2), facts, numbers(1, 2)...)
	mustHave(t, r, token(0, 1, 1), facts, numbers(1, 1)...)
	mustNotHave(t, r, token(0, 2, 1), facts...)
	mustNotHave(t, r, token(0, 2, 2), facts...)
}

// P12.1: what each kind of an argument asks for.
func TestArguments(t *testing.T) {
	facts := []api.Fact{e(1, 1, 1), e(2, 1, 2), fact(3, eType, name("a"), name("a")), fact(4, eType, name("a"), number(1)), fact(5, noneType)}
	for conditions, want := range map[string][]api.Token{
		"e(_, _);":        tokens(0, []int{1}, []int{2}, []int{3}, []int{4}),
		"e(?x, ?y);":      tokens(0, []int{1}, []int{2}, []int{3}, []int{4}),
		"e(?x, ?x);":      tokens(0, []int{1}, []int{3}),
		"e(1, _);":        tokens(0, []int{1}, []int{2}),
		"e('a, _);":       tokens(0, []int{3}, []int{4}),
		"e(_, 1);":        tokens(0, []int{1}, []int{4}),
		"e(?x, 'a);":      tokens(0, []int{3}),
		"e(1, 2);":        tokens(0, []int{2}),
		"e(2, _);":        nil,
		"e('b, _);":       nil,
		"none();":         tokens(0, []int{5}),
		"p(_);":           nil,
		"none(); none();": tokens(0, []int{5, 5}),
	} {
		mustTell(t, program(t, conditions), facts, want...)
	}
}

// P12.1: facts of two conditions are joined by what the first one binds, whether they are of one type or not.
func TestJoins(t *testing.T) {
	facts := []api.Fact{p(1, 5), q(2, 5), p(3, 6), q(4, 7), e(5, 5, 6), e(6, 6, 5), q(7, 5)}
	for conditions, want := range map[string][]api.Token{
		"p(?x); q(?x);":              tokens(0, []int{1, 2}, []int{1, 7}),
		"q(?x); p(?x);":              tokens(0, []int{2, 1}, []int{7, 1}),
		"p(?x); q(?y);":              tokens(0, []int{1, 2}, []int{1, 4}, []int{1, 7}, []int{3, 2}, []int{3, 4}, []int{3, 7}),
		"p(?x); p(?x);":              tokens(0, []int{1, 1}, []int{3, 3}),
		"p(?x); e(?x, ?y); p(?y);":   tokens(0, []int{1, 5, 3}, []int{3, 6, 1}),
		"e(?x, ?y); p(?y); q(?x);":   tokens(0, []int{5, 3, 2}, []int{5, 3, 7}),
		"e(?x, ?y); e(?y, ?x);":      tokens(0, []int{5, 6}, []int{6, 5}),
		"e(?x, ?y); e(?x, ?y);":      tokens(0, []int{5, 5}, []int{6, 6}),
		"p(?x); e(?y, ?x); q(?y);":   tokens(0, []int{3, 5, 2}, []int{3, 5, 7}),
		"e(?x, _); e(_, ?x); q(?x);": tokens(0, []int{5, 6, 2}, []int{5, 6, 7}),
		"q(7); p(?x); q(?x);":        tokens(0, []int{4, 1, 2}, []int{4, 1, 7}),
	} {
		mustTell(t, program(t, conditions), facts, want...)
	}
}

// P12.1: a CondNot holds as long as no fact is such, under the variables as they are then.
func TestNot(t *testing.T) {
	facts := []api.Fact{p(1, 5), q(2, 5), p(3, 6)}
	for conditions, want := range map[string][]api.Token{
		"p(?x); not q(?x);":           tokens(0, []int{3}),
		"p(?x); not p(?x);":           nil,
		"p(?x); not q(_);":            nil,
		"p(?x); not q(6);":            tokens(0, []int{1}, []int{3}),
		"p(?x); not none();":          tokens(0, []int{1}, []int{3}),
		"not none(); p(?x);":          tokens(0, []int{1}, []int{3}),
		"not q(_); p(?x);":            nil,
		"not q(4); p(?x); not q(?x);": tokens(0, []int{3}),
		"not none();":                 []api.Token{token(0)},
		"not none(); not q(1);":       []api.Token{token(0)},
		"not none(); not q(5);":       nil,
		"not p(_);":                   nil,
		"q(?x); not e(?x, ?x);":       tokens(0, []int{2}),
	} {
		mustTell(t, program(t, conditions), facts, want...)
	}
	r := program(t, "p(?x); not q(?x);")
	mustTell(t, r, facts[:1], token(0, 1))
	mustTell(t, r, append(slices.Clone(facts), q(9, 6)))
	mustTell(t, r, append(slices.Clone(facts), q(9, 7)), token(0, 3))
}

// P12.1: a CondTest holds, if what it says is a number, and not 0: an error or a name does not.
func TestTests(t *testing.T) {
	facts := []api.Fact{p(1, 5), p(2, 0), p(3, -1), fact(4, pType, name("a")), p(5, 1<<62)}
	for conditions, want := range map[string][]api.Token{
		"p(?x); test ?x;":                     tokens(0, []int{1}, []int{3}, []int{5}),
		"p(?x); test not ?x;":                 tokens(0, []int{2}),
		"p(?x); test ?x < 5;":                 tokens(0, []int{2}, []int{3}),
		"p(?x); test ?x <= 5;":                tokens(0, []int{1}, []int{2}, []int{3}),
		"p(?x); test ?x > 0;":                 tokens(0, []int{1}, []int{5}),
		"p(?x); test ?x = 'a;":                tokens(0, []int{4}),
		"p(?x); test ?x != 'a;":               tokens(0, []int{1}, []int{2}, []int{3}, []int{5}),
		"p(?x); test ?x * 2;":                 tokens(0, []int{1}, []int{3}),
		"p(?x); test 2;":                      tokens(0, []int{1}, []int{2}, []int{3}, []int{4}, []int{5}),
		"p(?x); test -3;":                     tokens(0, []int{1}, []int{2}, []int{3}, []int{4}, []int{5}),
		"p(?x); test 0;":                      nil,
		"p(?x); test 'a;":                     nil,
		"test 1; p(?x);":                      tokens(0, []int{1}, []int{2}, []int{3}, []int{4}, []int{5}),
		"test 'a; p(?x);":                     nil,
		"test 1 + 'a; p(?x);":                 nil,
		"test 0;":                             nil,
		"test 1;":                             []api.Token{token(0)},
		"test 1; test 1 - 1;":                 nil,
		"p(?x); p(?y); test ?x + ?y = 4;":     tokens(0, []int{1, 3}, []int{3, 1}),
		"p(?x); test ?x < 1; p(?y); test ?y;": tokens(0, []int{2, 1}, []int{2, 3}, []int{2, 5}, []int{3, 1}, []int{3, 3}, []int{3, 5}),
	} {
		mustTell(t, program(t, conditions), facts, want...)
	}
}

// P12.1: a rule without conditions has one match, without Ids, also without facts; without rules there is none.
func TestWithoutConditions(t *testing.T) {
	facts := []api.Fact{p(1, 5), q(2, 5)}
	for _, l := range [][]api.Fact{nil, {}, facts} {
		mustTell(t, program(t, ""), l, token(0))
		mustTell(t, program(t, "", ""), l, token(0), token(1))
		mustTell(t, program(t), l)
		mustHave(t, program(t, "", ""), token(1), l)
		mustNotHave(t, program(t), token(0), l...)
	}
	mustTell(t, api.Rules{}, nil)
	mustTell(t, api.Rules{Types: []api.Type{}, Rules: []api.Rule{}}, []api.Fact{})
	mustTell(t, api.Rules{Rules: []api.Rule{{Name: "r"}}}, nil, token(0))
	mustTell(t, program(t, "p(_); q(_);", "", "q(_);"), facts, token(0, 1, 2), token(1), token(2, 2))
}

// P12.1: matches stand by rules, whatever their names and saliences; those of one by their Ids, the first that differ.
func TestOrder(t *testing.T) {
	r := rulesOf(t, "fact p(a); fact q(a); rule z salience -5 { q(?x); p(?y); => halt; } rule a salience 9 { p(?x); p(?y); test ?x != ?y; => halt; } rule m salience 3 { p(2); => halt; } rule b salience 3 { p(_); => halt; }")
	facts := []api.Fact{fact(3, 0, number(2)), fact(7, 1, number(1)), fact(20, 0, number(1)), fact(100, 1, number(0)), fact(1000, 0, number(0))}
	var want []api.Token
	want = append(want, tokens(0, []int{7, 3}, []int{7, 20}, []int{7, 1000}, []int{100, 3}, []int{100, 20}, []int{100, 1000})...)
	want = append(want, tokens(1, []int{3, 20}, []int{3, 1000}, []int{20, 3}, []int{20, 1000}, []int{1000, 3}, []int{1000, 20})...)
	want = append(want, token(2, 3))
	want = append(want, tokens(3, []int{3}, []int{20}, []int{1000})...)
	mustTell(t, r, facts, want...)
}

// P12.1: facts that say the same are facts of their own, each.
func TestFactsThatSayTheSame(t *testing.T) {
	facts := []api.Fact{p(1, 5), p(2, 5)}
	mustTell(t, program(t, "p(?x); p(?x);"), facts, tokens(0, []int{1, 1}, []int{1, 2}, []int{2, 1}, []int{2, 2})...)
	mustHave(t, program(t, "p(?x); p(?x);"), token(0, 2, 1), facts, number(5))
}

// P12.1: one fact less or more.
func TestOneFactMore(t *testing.T) {
	r := program(t, "p(?x); e(?x, ?y); not q(?y); test ?x < ?y;")
	facts := []api.Fact{p(1, 5), e(2, 5, 6), e(3, 5, 4), e(4, 5, 7), q(5, 7)}
	mustTell(t, r, facts, token(0, 1, 2))
	mustTell(t, r, facts[1:])
	mustTell(t, r, facts[:1])
	mustTell(t, r, facts[:2], token(0, 1, 2))
	mustTell(t, r, facts[:3], token(0, 1, 2))
	mustTell(t, r, facts[:4], token(0, 1, 2), token(0, 1, 4))
	mustTell(t, r, append(slices.Clone(facts), q(6, 6)))
	mustTell(t, r, append(slices.Clone(facts), p(6, 5)), token(0, 1, 2), token(0, 6, 2))
}

// P12.2: the variables of a match, by their numbers.
func TestVars(t *testing.T) {
	r := program(t, "p(?x); e(?x, ?y); not q(?y); e(?z, ?w); test ?w != ?y;", "q(_);", "e(?b, ?a); e(?a, ?c);")
	facts := []api.Fact{p(1, 5), e(2, 5, 6), fact(3, eType, name("a"), number(8)), q(9, 9), fact(10, eType, number(6), name("b"))}
	mustTell(t, r, facts, token(0, 1, 2, 3), token(0, 1, 2, 10), token(1, 9), token(2, 2, 10))
	mustHave(t, r, token(0, 1, 2, 3), facts, number(5), number(6), name("a"), number(8))
	mustHave(t, r, token(0, 1, 2, 10), facts, number(5), number(6), number(6), name("b"))
	mustHave(t, r, token(1, 9), facts)
	mustHave(t, r, token(2, 2, 10), facts, number(5), number(6), name("b"))
	for _, k := range []api.Token{
		{}, token(0), token(0, 1), token(0, 1, 2), token(0, 1, 2, 2), token(0, 1, 2, 3, 3), token(0, 1, 2, 3, 10), token(0, 1, 2, 4), token(0, 2, 1, 3), token(0, 1, 3, 2), token(0, 1, 2, 9),
		token(1), token(1, 1), token(1, 9, 9), token(1, 8), token(2, 10, 2), token(2, 2), token(2, 2, 10, 10), token(2, 9), token(3), token(3, 9), token(-1), token(-1, 9),
	} {
		mustNotHave(t, r, k, facts...)
	}
	mustNotHave(t, r, token(0, 1, 2, 3), append(slices.Clone(facts), q(11, 6))...)
	mustHave(t, r, token(0, 1, 2, 3), append(slices.Clone(facts), q(11, 7)), number(5), number(6), name("a"), number(8))
	mustNotHave(t, r, token(0, 1, 2, 3), facts[1:]...)
}

// P12.2: as many variables, and as many facts, as a match can have.
func TestMostVars(t *testing.T) {
	r := rulesOf(t, "fact p(a, b); rule r { p(?a, ?b); p(?c, ?d); p(?e, ?f); p(?g, ?h); p(?i, ?j); p(?k, ?l); p(?m, ?n); p(?o, ?p); => halt; }")
	one := fact(1, 0, numbers(1, 2)...)
	mustTell(t, r, []api.Fact{one}, token(0, 1, 1, 1, 1, 1, 1, 1, 1))
	facts := []api.Fact{one, fact(2, 0, numbers(3, 4)...), fact(api.MaxId, 0, name("a"), name("b"))}
	mustHave(t, r, token(0, 1, 2, 2, 1, api.MaxId, 1, 1, api.MaxId), facts, number(1), number(2), number(3), number(4), number(3), number(4), number(1), number(2), name("a"), name("b"), number(1), number(2), number(1), number(2), name("a"), name("b"))
	mustNotHave(t, r, token(0, 1, 2, 2, 1, api.MaxId, 1, 1), facts...)
	mustNotHave(t, r, token(0, 1, 2, 2, 1, api.MaxId, 1, 1, api.MaxId, 1), facts...)
	mustNotHave(t, r, token(0, 1, 2, 2, 1, api.MaxId, 1, 1, api.MaxId-1), facts...)
}
