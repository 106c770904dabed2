package rete_test

import (
	"cmp"
	"fmt"
	"reflect"
	"slices"
	"strings"
	"testing"

	"ropewalk/api"
	"ropewalk/check"
	"ropewalk/naive"
	"ropewalk/rete"
)

func number(n int64) api.Value { return api.Value{Kind: api.Int, Num: n} }

func name(text string) api.Value { return api.Value{Kind: api.Name, Text: text} }

func numbers(l ...int64) []api.Value {
	var values []api.Value
	for _, n := range l {
		values = append(values, number(n))
	}
	return values
}

func fact(id, kind int, args ...api.Value) api.Fact {
	return api.Fact{Id: id, Type: kind, Args: args}
}

// many is so many facts of a type, each of the number of its Id, behind an Id.
func many(behind, n, kind int) []api.Fact {
	var l []api.Fact
	for i := range n {
		l = append(l, fact(behind+1+i, kind, number(int64(behind+1+i))))
	}
	return l
}

func token(rule int, ids ...int) api.Token { return api.Token{Rule: rule, Ids: ids} }

func tokens(rule int, ids ...[]int) []api.Token {
	var l []api.Token
	for _, row := range ids {
		l = append(l, token(rule, row...))
	}
	return l
}

func rulesOf(t *testing.T, source string) api.Rules {
	t.Helper()
	r, fault := check.Source(source)
	if fault.Err != api.OK {
		t.Fatalf("%s: %v", source, fault)
	}
	return r
}

// program is the rules of some conditions, over the types that most tests use.
func program(t *testing.T, conditions ...string) api.Rules {
	t.Helper()
	var b strings.Builder
	b.WriteString("fact none(); fact p(a); fact q(a); fact e(a, b);")
	for i, c := range conditions {
		fmt.Fprintf(&b, "rule r%d { %s => halt; }", i, c)
	}
	return rulesOf(t, b.String())
}

// Places of program's types.
const (
	noneType = 0
	pType    = 1
	qType    = 2
	eType    = 3
)

func p(id int, v int64) api.Fact { return fact(id, pType, number(v)) }

func q(id int, v int64) api.Fact { return fact(id, qType, number(v)) }

func e(id int, v, w int64) api.Fact { return fact(id, eType, number(v), number(w)) }

func same(l, m []api.Token) bool {
	return slices.EqualFunc(l, m, func(a, b api.Token) bool { return a.Rule == b.Rule && slices.Equal(a.Ids, b.Ids) })
}

// brief is matches that a person can read through.
func brief(l []api.Token) string {
	if len(l) > 40 {
		return fmt.Sprintf("%v and %d more", l[:40], len(l)-40)
	}
	return fmt.Sprint(l)
}

// made is a net that is there.
func made(t *testing.T, r api.Rules) *rete.Net {
	t.Helper()
	n := rete.New(r)
	if n == nil {
		t.Fatalf("no net of %+v", r)
	}
	return n
}

func mustAdd(t *testing.T, n *rete.Net, facts ...api.Fact) {
	t.Helper()
	for _, f := range facts {
		mustAnswer(t, api.OK, n, f)
	}
}

// mustAnswer holds what Add answers, and that the fact stays as it is.
func mustAnswer(t *testing.T, want api.Errno, n *rete.Net, f api.Fact) {
	t.Helper()
	begun := f
	begun.Args = slices.Clone(f.Args)
	if err := n.Add(f); err != want {
		t.Errorf("Add(%v): %v, not %v", f, err, want)
	}
	if !slices.Equal(f.Args, begun.Args) {
		t.Errorf("%v was %v", f, begun)
	}
}

func mustDrop(t *testing.T, n *rete.Net, ids ...int) {
	t.Helper()
	for _, id := range ids {
		mustDropAs(t, api.OK, n, id)
	}
}

func mustDropAs(t *testing.T, want api.Errno, n *rete.Net, id int) {
	t.Helper()
	if err := n.Drop(id); err != want {
		t.Errorf("Drop(%d): %v, not %v", id, err, want)
	}
}

// mustTell holds the matches, which are told alike twice, and how many facts there are.
func mustTell(t *testing.T, n *rete.Net, facts int, want ...api.Token) {
	t.Helper()
	for range 2 {
		if told := n.Tokens(); !same(told, want) {
			t.Errorf("%s, not %s", brief(told), brief(want))
		}
	}
	if n.Len() != facts {
		t.Errorf("%d facts, not %d", n.Len(), facts)
	}
}

// pair is a net, and the facts that must be there, by Ids, with what the plain way tells of them.
type pair struct {
	*testing.T
	net    *rete.Net
	rules  api.Rules
	facts  []api.Fact
	tokens []api.Token
}

func pairOf(t *testing.T, r api.Rules) *pair {
	t.Helper()
	k := &pair{T: t, net: made(t, r), rules: r}
	if err := k.turn(nil); err != api.OK {
		t.Fatal(err)
	}
	k.mustAgree()
	return k
}

func (k *pair) place(id int) (int, bool) {
	return slices.BinarySearchFunc(k.facts, id, func(f api.Fact, id int) int { return cmp.Compare(f.Id, id) })
}

// turn makes these the facts that must be there, unless the plain way has an error.
func (k *pair) turn(facts []api.Fact) api.Errno {
	told, err := naive.Tokens(k.rules, facts...)
	if err == api.OK {
		k.facts, k.tokens = facts, told
	}
	return err
}

// mustAgree holds all that the net tells against the plain way over the facts.
func (k *pair) mustAgree() {
	k.Helper()
	if told := k.net.Tokens(); !same(told, k.tokens) {
		k.Errorf("%v: %s, not %s", k.facts, brief(told), brief(k.tokens))
	}
	if k.net.Len() != len(k.facts) {
		k.Errorf("%d facts, not %d", k.net.Len(), len(k.facts))
	}
}

// add adds a fact to both, if it may be, and holds the answer and all matches behind it.
func (k *pair) add(f api.Fact) api.Errno {
	k.Helper()
	at, there := k.place(f.Id)
	_, want := naive.Tokens(api.Rules{Types: k.rules.Types}, f)
	if want == api.OK && there {
		want = api.ErrThere
	}
	if want == api.OK {
		own := fact(f.Id, f.Type, slices.Clone(f.Args)...)
		want = k.turn(slices.Insert(slices.Clone(k.facts), at, own))
	}
	mustAnswer(k.T, want, k.net, f)
	k.mustAgree()
	return want
}

func (k *pair) drop(id int) api.Errno {
	k.Helper()
	at, there := k.place(id)
	want := api.ErrNone
	if there {
		want = k.turn(slices.Delete(slices.Clone(k.facts), at, at+1))
	}
	mustDropAs(k.T, want, k.net, id)
	k.mustAgree()
	return want
}

func (k *pair) addAll(facts ...api.Fact) {
	k.Helper()
	for _, f := range facts {
		if err := k.add(f); err != api.OK {
			k.Errorf("%v: %v", f, err)
		}
	}
}

// mustMatch holds the matches, and then those over all of the facts but some, as they go and come back.
func mustMatch(t *testing.T, r api.Rules, facts []api.Fact, want ...api.Token) {
	t.Helper()
	k := pairOf(t, r)
	k.addAll(facts...)
	mustTell(t, k.net, len(facts), want...)
	for _, f := range facts {
		k.drop(f.Id)
		k.add(f)
	}
	for _, f := range facts {
		k.drop(f.Id)
	}
	for _, f := range slices.Backward(facts) {
		k.add(f)
	}
	mustTell(t, k.net, len(facts), want...)
	for _, f := range slices.Backward(facts) {
		k.drop(f.Id)
	}
}

// P13.2, P13.3: the chapter's example.
func TestChapter(t *testing.T) {
	n := made(t, rulesOf(t, "fact p(a, b); rule r { p(?x, 1); p(?x, ?y); => assert p(?y, ?x + 1); retract 2; }"))
	mustTell(t, n, 0)
	mustAdd(t, n, fact(1, 0, numbers(1, 1)...))
	mustTell(t, n, 1, token(0, 1, 1))
	mustAdd(t, n, fact(2, 0, numbers(1, 2)...))
	mustTell(t, n, 2, token(0, 1, 1), token(0, 1, 2))
	mustDrop(t, n, 1)
	mustTell(t, n, 1)
}

// P13.2: what Add and Drop answer of Ids that are there, or not, or not any more; Len counts.
func TestAddAndDrop(t *testing.T) {
	k := pairOf(t, program(t, "p(?x); not q(?x);"))
	mustAnswer(t, api.OK, k.net, p(5, 1))
	mustTell(t, k.net, 1, token(0, 5))
	for _, f := range []api.Fact{p(5, 1), p(5, 2), q(5, 1), e(5, 1, 1), fact(5, noneType)} {
		mustAnswer(t, api.ErrThere, k.net, f)
		mustTell(t, k.net, 1, token(0, 5))
	}
	for _, id := range []int{4, 6, 0, -1, -5, 1 << 40, 1<<40 + 1, 5 + 1<<32} {
		mustDropAs(t, api.ErrNone, k.net, id)
		mustTell(t, k.net, 1, token(0, 5))
	}
	mustAnswer(t, api.OK, k.net, p(4, 1))
	mustTell(t, k.net, 2, token(0, 4), token(0, 5))
	mustDropAs(t, api.OK, k.net, 5)
	mustDropAs(t, api.ErrNone, k.net, 5)
	mustTell(t, k.net, 1, token(0, 4))
	mustAnswer(t, api.OK, k.net, q(5, 1))
	mustTell(t, k.net, 2)
	mustDropAs(t, api.OK, k.net, 4)
	mustTell(t, k.net, 1)
	mustDropAs(t, api.OK, k.net, 5)
	mustDropAs(t, api.ErrNone, k.net, 4)
	mustTell(t, k.net, 0)
}

// P13.3: what each kind of an argument asks for.
func TestArguments(t *testing.T) {
	facts := []api.Fact{e(1, 1, 1), e(2, 1, 2), fact(3, eType, name("a"), name("a")), fact(4, eType, name("a"), number(1)), fact(5, noneType)}
	for conditions, want := range map[string][]api.Token{
		"e(_, _);":        tokens(0, []int{1}, []int{2}, []int{3}, []int{4}),
		"e(?x, ?y);":      tokens(0, []int{1}, []int{2}, []int{3}, []int{4}),
		"e(?x, ?x);":      tokens(0, []int{1}, []int{3}),
		"e(1, _);":        tokens(0, []int{1}, []int{2}),
		"e('a, _);":       tokens(0, []int{3}, []int{4}),
		"e(_, 1);":        tokens(0, []int{1}, []int{4}),
		"e(?x, 'a);":      tokens(0, []int{3}),
		"e(1, 2);":        tokens(0, []int{2}),
		"e(2, _);":        nil,
		"e('b, _);":       nil,
		"none();":         tokens(0, []int{5}),
		"p(_);":           nil,
		"none(); none();": tokens(0, []int{5, 5}),
	} {
		mustMatch(t, program(t, conditions), facts, want...)
	}
}

// P13.3: facts of two conditions are joined by what the first one binds, whether they are of one type or not.
func TestJoins(t *testing.T) {
	facts := []api.Fact{p(1, 5), q(2, 5), p(3, 6), q(4, 7), e(5, 5, 6), e(6, 6, 5), q(7, 5)}
	for conditions, want := range map[string][]api.Token{
		"p(?x); q(?x);":              tokens(0, []int{1, 2}, []int{1, 7}),
		"q(?x); p(?x);":              tokens(0, []int{2, 1}, []int{7, 1}),
		"p(?x); q(?y);":              tokens(0, []int{1, 2}, []int{1, 4}, []int{1, 7}, []int{3, 2}, []int{3, 4}, []int{3, 7}),
		"p(?x); p(?x);":              tokens(0, []int{1, 1}, []int{3, 3}),
		"p(?x); e(?x, ?y); p(?y);":   tokens(0, []int{1, 5, 3}, []int{3, 6, 1}),
		"e(?x, ?y); p(?y); q(?x);":   tokens(0, []int{5, 3, 2}, []int{5, 3, 7}),
		"e(?x, ?y); e(?y, ?x);":      tokens(0, []int{5, 6}, []int{6, 5}),
		"e(?x, ?y); e(?x, ?y);":      tokens(0, []int{5, 5}, []int{6, 6}),
		"p(?x); e(?y, ?x); q(?y);":   tokens(0, []int{3, 5, 2}, []int{3, 5, 7}),
		"e(?x, _); e(_, ?x); q(?x);": tokens(0, []int{5, 6, 2}, []int{5, 6, 7}),
		"q(7); p(?x); q(?x);":        tokens(0, []int{4, 1, 2}, []int{4, 1, 7}),
	} {
		mustMatch(t, program(t, conditions), facts, want...)
	}
}

// P13.3: a CondNot holds as long as no fact is such, under the variables as they are then.
func TestNot(t *testing.T) {
	facts := []api.Fact{p(1, 5), q(2, 5), p(3, 6)}
	for conditions, want := range map[string][]api.Token{
		"p(?x); not q(?x);":           tokens(0, []int{3}),
		"p(?x); not p(?x);":           nil,
		"p(?x); not q(_);":            nil,
		"p(?x); not q(6);":            tokens(0, []int{1}, []int{3}),
		"p(?x); not none();":          tokens(0, []int{1}, []int{3}),
		"not none(); p(?x);":          tokens(0, []int{1}, []int{3}),
		"not q(_); p(?x);":            nil,
		"not q(4); p(?x); not q(?x);": tokens(0, []int{3}),
		"not none();":                 {token(0)},
		"not none(); not q(1);":       {token(0)},
		"not none(); not q(5);":       nil,
		"not p(_);":                   nil,
		"q(?x); not e(?x, ?x);":       tokens(0, []int{2}),
	} {
		mustMatch(t, program(t, conditions), facts, want...)
	}
}

// P13.2, P13.3: a CondNot that several facts meet holds behind the last one of them, in whatever order they go.
func TestNotThatSeveralMeet(t *testing.T) {
	for _, conditions := range []string{"not q(_); p(_);", "p(_); not q(_);", "p(?x); not q(?x);", "p(_); not q(1); test 1;", "not q(1); not q(_); p(_);", "p(?x); not q(?x); p(?x);"} {
		ids := []int{9}
		if strings.Count(conditions, "p(") == 2 {
			ids = []int{9, 9}
		}
		for _, order := range [][]int{{1, 2, 3}, {1, 3, 2}, {2, 1, 3}, {2, 3, 1}, {3, 1, 2}, {3, 2, 1}} {
			k := pairOf(t, program(t, conditions))
			k.addAll(q(1, 1), q(2, 1), p(9, 1), q(3, 1))
			mustTell(t, k.net, 4)
			for _, id := range order[:2] {
				k.drop(id)
				mustTell(t, k.net, len(k.facts))
			}
			k.drop(order[2])
			mustTell(t, k.net, 1, token(0, ids...))
			k.add(q(4, 2))
			k.add(q(5, 1))
			mustTell(t, k.net, 3)
			k.drop(5)
			k.drop(4)
			mustTell(t, k.net, 1, token(0, ids...))
		}
	}
}

// P13.3: a CondTest holds, if what it says is a number, and not 0: an error or a name does not.
func TestTests(t *testing.T) {
	facts := []api.Fact{p(1, 5), p(2, 0), p(3, -1), fact(4, pType, name("a")), p(5, 1<<62)}
	all := tokens(0, []int{1}, []int{2}, []int{3}, []int{4}, []int{5})
	for conditions, want := range map[string][]api.Token{
		"p(?x); test ?x;":                     tokens(0, []int{1}, []int{3}, []int{5}),
		"p(?x); test not ?x;":                 tokens(0, []int{2}),
		"p(?x); test ?x < 5;":                 tokens(0, []int{2}, []int{3}),
		"p(?x); test ?x <= 5;":                tokens(0, []int{1}, []int{2}, []int{3}),
		"p(?x); test ?x > 0;":                 tokens(0, []int{1}, []int{5}),
		"p(?x); test ?x = 'a;":                tokens(0, []int{4}),
		"p(?x); test ?x != 'a;":               tokens(0, []int{1}, []int{2}, []int{3}, []int{5}),
		"p(?x); test ?x * 2;":                 tokens(0, []int{1}, []int{3}),
		"p(?x); test 2;":                      all,
		"p(?x); test -3;":                     all,
		"p(?x); test 0;":                      nil,
		"p(?x); test 'a;":                     nil,
		"test 1; p(?x);":                      all,
		"test 0; p(?x);":                      nil,
		"test 'a; p(?x);":                     nil,
		"test 1 + 'a; p(?x);":                 nil,
		"test 0;":                             nil,
		"test 1;":                             {token(0)},
		"test 1; test 1 - 1;":                 nil,
		"p(?x); p(?y); test ?x + ?y = 4;":     tokens(0, []int{1, 3}, []int{3, 1}),
		"p(?x); test ?x < 1; p(?y); test ?y;": tokens(0, []int{2, 1}, []int{2, 3}, []int{2, 5}, []int{3, 1}, []int{3, 3}, []int{3, 5}),
	} {
		mustMatch(t, program(t, conditions), facts, want...)
	}
}

// P13.3: a rule without conditions has one match, without Ids, also without facts; without rules there is none.
func TestWithoutConditions(t *testing.T) {
	facts := []api.Fact{p(1, 5), q(2, 5)}
	for _, l := range [][]api.Fact{nil, facts} {
		mustMatch(t, program(t, ""), l, token(0))
		mustMatch(t, program(t, "", ""), l, token(0), token(1))
		mustMatch(t, program(t), l)
	}
	mustMatch(t, api.Rules{}, nil)
	mustMatch(t, api.Rules{Types: []api.Type{}, Rules: []api.Rule{}}, nil)
	mustMatch(t, api.Rules{Rules: []api.Rule{{Name: "r"}}}, nil, token(0))
	mustMatch(t, program(t, "p(_); q(_);", "", "q(_);"), facts, token(0, 1, 2), token(1), token(2, 2))
}

// P13.3: two conditions that ask for the same, of one rule and of several, whatever their variables are.
func TestConditionsAlike(t *testing.T) {
	facts := []api.Fact{e(3, 1, 7), e(5, 1, 8), e(8, 2, 7)}
	r := program(t, "e(1, _); e(1, _);", "e(1, ?x);", "e(?x, 7); e(?x, 7);", "not e(1, _);", "e(2, _); not e(1, _);", "e(_, _); e(1, 8);", "e(?y, ?y);", "e(1, 8);")
	want := tokens(0, []int{3, 3}, []int{3, 5}, []int{5, 3}, []int{5, 5})
	want = append(want, tokens(1, []int{3}, []int{5})...)
	want = append(want, tokens(2, []int{3, 3}, []int{8, 8})...)
	want = append(want, tokens(5, []int{3, 5}, []int{5, 5}, []int{8, 5})...)
	mustMatch(t, r, facts, append(want, token(7, 5))...)
}

// P13.3: one fact that is what several conditions of a rule ask for comes to all of them at once, and goes so.
func TestOneFactForSeveral(t *testing.T) {
	for conditions, want := range map[string][]api.Token{
		"e(?x, ?y); e(?y, ?x);":                 tokens(0, []int{4, 4}),
		"e(?x, _); e(_, ?x); e(1, _); e(_, 1);": tokens(0, []int{4, 4, 4, 4}),
		"e(1, ?x); not e(?x, 2); e(?x, 1);":     tokens(0, []int{4, 4}),
		"e(?x, ?x); not e(?x, ?x);":             nil,
		"not e(1, 1); e(?x, ?x);":               nil,
	} {
		mustMatch(t, program(t, conditions), []api.Fact{e(4, 1, 1)}, want...)
	}
	mustMatch(t, program(t, "p(_); p(_); p(_);"), []api.Fact{p(1, 1), p(2, 2)}, tokens(0, []int{1, 1, 1}, []int{1, 1, 2}, []int{1, 2, 1}, []int{1, 2, 2}, []int{2, 1, 1}, []int{2, 1, 2}, []int{2, 2, 1}, []int{2, 2, 2})...)
}

// P13.3: matches stand by rules, whatever their names and saliences; those of one by their Ids, the first that differ, in whatever order facts came.
func TestOrder(t *testing.T) {
	r := rulesOf(t, "fact p(a); fact q(a); rule z salience -5 { q(?x); p(?y); => halt; } rule a salience 9 { p(?x); p(?y); test ?x != ?y; => halt; } rule m salience 3 { p(2); => halt; } rule b salience 3 { p(_); => halt; }")
	facts := []api.Fact{fact(3, 0, number(2)), fact(7, 1, number(1)), fact(20, 0, number(1)), fact(100, 1, number(0)), fact(1000, 0, number(0))}
	want := tokens(0, []int{7, 3}, []int{7, 20}, []int{7, 1000}, []int{100, 3}, []int{100, 20}, []int{100, 1000})
	want = append(want, tokens(1, []int{3, 20}, []int{3, 1000}, []int{20, 3}, []int{20, 1000}, []int{1000, 3}, []int{1000, 20})...)
	want = append(want, token(2, 3))
	want = append(want, tokens(3, []int{3}, []int{20}, []int{1000})...)
	for _, order := range [][]int{{0, 1, 2, 3, 4}, {4, 3, 2, 1, 0}, {2, 4, 0, 3, 1}, {1, 3, 0, 2, 4}, {4, 0, 3, 1, 2}} {
		n := made(t, r)
		for _, at := range order {
			mustAdd(t, n, facts[at])
		}
		mustTell(t, n, 5, want...)
		mustDrop(t, n, 20, 7)
		mustAdd(t, n, facts[1], facts[2])
		mustTell(t, n, 5, want...)
	}
}

// P13.3: facts that say the same are facts of their own, each.
func TestFactsThatSayTheSame(t *testing.T) {
	facts := []api.Fact{p(1, 5), p(2, 5)}
	mustMatch(t, program(t, "p(?x); p(?x);"), facts, tokens(0, []int{1, 1}, []int{1, 2}, []int{2, 1}, []int{2, 2})...)
	mustMatch(t, program(t, "p(5);", "not p(5);", "e(?x, ?x);"), facts, tokens(0, []int{1}, []int{2})...)
}

// P13.2, P13.3: a fact that comes back under its Id says what it says then: its variables are bound anew.
func TestComesBackAsAnother(t *testing.T) {
	k := pairOf(t, program(t, "p(?x); e(?x, ?y); not q(?y);", "p(?x); test ?x < 6;", "p(5);", "q(_);", "none();"))
	k.addAll(p(1, 5), e(2, 5, 6), e(3, 6, 7), q(4, 9))
	mustTell(t, k.net, 4, token(0, 1, 2), token(1, 1), token(2, 1), token(3, 4))
	k.drop(1)
	k.add(p(1, 6))
	mustTell(t, k.net, 4, token(0, 1, 3), token(3, 4))
	k.drop(4)
	k.add(q(4, 7))
	mustTell(t, k.net, 4, token(3, 4))
	k.drop(1)
	k.add(q(1, 6))
	k.drop(4)
	k.add(p(4, 5))
	mustTell(t, k.net, 4, token(1, 4), token(2, 4), token(3, 1))
	k.drop(1)
	k.add(fact(1, noneType))
	mustTell(t, k.net, 4, token(0, 4, 2), token(1, 4), token(2, 4), token(4, 1))
}

// P13.3: as many variables, and as many facts, as a match can have.
func TestMostVars(t *testing.T) {
	r := rulesOf(t, "fact p(a, b); rule r { p(?a, ?b); p(?b, ?d); p(?d, ?f); p(?f, ?h); p(?h, ?j); p(?j, ?l); p(?l, ?n); p(?n, ?p); => halt; } rule s { p(?a, ?b); p(?c, ?d); p(?e, ?f); p(?g, ?h); p(?i, ?j); p(?k, ?l); p(?m, ?n); p(?o, ?p); => halt; }")
	k := pairOf(t, r)
	k.add(fact(api.MaxId, 0, numbers(1, 2)...))
	mustTell(t, k.net, 1, token(1, slices.Repeat([]int{api.MaxId}, 8)...))
	k.add(fact(1, 0, numbers(2, 1)...))
	told, most := k.net.Tokens(), api.MaxId
	if len(told) != 2+256 {
		t.Fatalf("%s", brief(told))
	}
	for at, want := range map[int]api.Token{
		0: token(0, 1, most, 1, most, 1, most, 1, most), 1: token(0, most, 1, most, 1, most, 1, most, 1),
		2: token(1, 1, 1, 1, 1, 1, 1, 1, 1), 3: token(1, 1, 1, 1, 1, 1, 1, 1, most),
		256: token(1, most, most, most, most, most, most, most, 1), 257: token(1, slices.Repeat([]int{most}, 8)...),
	} {
		if !same(told[at:at+1], []api.Token{want}) {
			t.Errorf("%d: %v, not %v", at, told[at], want)
		}
	}
	k.drop(api.MaxId)
	mustTell(t, k.net, 1, token(1, slices.Repeat([]int{1}, 8)...))
}

// P13.3: facts of types that no condition asks for are there, and change no match.
func TestNobodyAsks(t *testing.T) {
	k := pairOf(t, program(t, "p(3);", "not e(1, 2);"))
	for _, f := range []api.Fact{q(1, 3), fact(2, noneType), p(3, 2), e(4, 2, 1), e(5, 1, 1), e(6, 2, 2), fact(7, pType, name("a"))} {
		k.add(f)
		mustTell(t, k.net, f.Id, token(1))
		mustAnswer(t, api.ErrThere, k.net, f)
	}
	k.add(p(8, 3))
	for id := range 8 {
		k.drop(id)
	}
	mustTell(t, k.net, 1, token(0, 8), token(1))
}

// P13.3: what is told is nothing else than rows of rules and Ids.
func TestPlainRows(t *testing.T) {
	k := pairOf(t, program(t, "p(_);", "", "test 1;", "q(_); p(_);"))
	k.addAll(p(2, 1), q(1, 1))
	want := []api.Token{{Rule: 0, Ids: []int{2}}, {Rule: 1}, {Rule: 2}, {Rule: 3, Ids: []int{1, 2}}}
	if told := k.net.Tokens(); !reflect.DeepEqual(told, want) {
		t.Errorf("%#v", told)
	}
}
