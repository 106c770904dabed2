package rete_test

import (
	"reflect"
	"slices"
	"strings"
	"sync"
	"testing"

	"ropewalk/api"
	"ropewalk/rete"
)

// R3: Ids that are told lie apart from each other and from what another call tells, also behind their ends.
func TestIdsLieApart(t *testing.T) {
	n := made(t, program(t, "p(_); p(_); test 1; p(_);", "p(_); not q(_); test 1;", "p(_);", "p(_); p(_);", ""))
	mustAdd(t, n, many(0, 3, pType)...)
	told, again := n.Tokens(), n.Tokens()
	var want []api.Token
	for _, k := range again {
		want = append(want, token(k.Rule, slices.Clone(k.Ids)...))
	}
	for i, k := range told {
		_ = append(k.Ids, 99, 98, 97, 96)
		for at := range k.Ids {
			_ = append(k.Ids[:at], 95)
			k.Ids[at] = -1
		}
		for _, other := range told[i+1:] {
			if slices.ContainsFunc(other.Ids, func(id int) bool { return id < 1 || id > 3 }) {
				t.Errorf("%v, %v", k, other)
			}
		}
		told[i].Rule = 77
	}
	_ = append(told[:1], token(9, 9))
	if !same(again, want) || len(want) != 27+3+3+9+1 {
		t.Errorf("%v, %v", again, want)
	}
	mustTell(t, n, 3, want...)
	mustDrop(t, n, 2)
	mustAdd(t, n, p(2, 2))
	mustTell(t, n, 3, want...)
}

// R3: each match's Ids are its own, when one of them is written over, however many it has, and what comes then knows nothing of it.
func TestOneMatchWrittenOver(t *testing.T) {
	for n := range api.MaxConds {
		k := filled(t, many(0, 2, pType), strings.Repeat("p(_);", n+1), strings.Repeat("p(_); test 1;", (n+1)/2))
		for i := range k.tokens {
			told := k.net.Tokens()
			for at := range told[i].Ids {
				told[i].Ids[at] = 50
			}
			_ = append(told[i].Ids, 51)
			told[i] = k.tokens[i]
			if !same(told, k.tokens) {
				t.Errorf("%d: %v", i, told)
			}
		}
		k.mustAgree()
		k.add(q(9, 9))
		k.drop(1)
		k.add(p(1, 1))
	}
}

// overwritten is rules with texts of their own, and what writes over all parts of them.
func overwritten(t *testing.T, conditions ...string) (api.Rules, func()) {
	t.Helper()
	r := program(t, conditions...)
	var overExpr func(x *api.Expr)
	overExpr = func(x *api.Expr) {
		for i := range x.Kids {
			overExpr(&x.Kids[i])
		}
		*x = api.Expr{Kind: api.ExprConst, Value: name("z")}
	}
	return r, func() {
		for n := range r.Rules {
			for c := range r.Rules[n].Conds {
				cond := &r.Rules[n].Conds[c]
				for a := range cond.Args {
					cond.Args[a] = api.Arg{Kind: api.ArgConst, Value: name("z")}
				}
				for i := range cond.Test.Kids {
					overExpr(&cond.Test.Kids[i])
				}
				cond.Kind, cond.Type = api.CondNot, noneType
			}
			r.Rules[n] = api.Rule{}
		}
		for n := range r.Types {
			r.Types[n] = api.Type{Name: "z", Fields: 5}
		}
	}
}

// R3: rules that were handed in are not kept: what is written over them changes no answer, nor what facts are right.
func TestRulesAreNotKept(t *testing.T) {
	conditions := []string{"p(?x); e(?x, ?y); not q(?y); test ?x < ?y + 1;", "e(?x, ?x); e('a, _);", "", "q(_); test not (1 = 2) and 3 * 1 < 4;", "not e(_, 7); p(5);"}
	for behind := range 4 {
		r, over := overwritten(t, conditions...)
		k := &pair{T: t, net: made(t, r), rules: program(t, conditions...)}
		for n, f := range []api.Fact{p(1, 5), e(2, 5, 6), fact(3, eType, name("a"), name("a")), q(4, 7), e(5, 5, 7), q(6, 6), fact(7, noneType), p(8, 6), e(9, 6, 6)} {
			if n == 2*behind {
				over()
			}
			k.add(f)
		}
		for _, f := range []api.Fact{fact(20, 4), fact(20, pType), fact(20, noneType, numbers(1, 2, 3, 4, 5)...)} {
			if err := k.add(f); err != api.ErrArg {
				t.Errorf("%v: %v", f, err)
			}
		}
		for _, id := range []int{6, 2, 3, 1, 9, 4} {
			k.drop(id)
		}
		k.addAll(p(1, 5), e(2, 5, 6))
		mustTell(t, k.net, 5, token(0, 1, 2), token(0, 1, 5), token(2))
	}
}

// R3: rules and facts that are handed in stay as they are, also behind their ends.
func TestArgumentsStay(t *testing.T) {
	conditions := []string{"p(?x); e(?x, ?y); not q(?y); test ?x < ?y;", "e(?x, ?x);", "q(_); q(_);", "", "not p(1);"}
	r := program(t, conditions...)
	r.Rules, r.Types = slices.Grow(r.Rules, 9), slices.Grow(r.Types, 9)
	for n := range r.Rules {
		for c := range r.Rules[n].Conds {
			cond := &r.Rules[n].Conds[c]
			if cond.Kind == api.CondTest {
				continue
			}
			cond.Args = append(cond.Args, api.Arg{Kind: api.ArgConst, Value: number(77)})[:len(cond.Args)]
		}
	}
	row := numbers(5, 6, 7, 8)
	begun := program(t, conditions...)
	k := pairOf(t, r)
	for id := range 9 {
		k.add(fact(id, eType, row[:2]...))
		k.add(fact(id, pType, row[:1]...))
		k.add(fact(2*id, qType, row[1:2]...))
		k.drop(id / 2)
	}
	k.add(fact(3, noneType, row...))
	if !slices.Equal(row, numbers(5, 6, 7, 8)) {
		t.Errorf("%v", row)
	}
	if !reflect.DeepEqual(r, begun) {
		t.Errorf("%+v", r)
	}
	for _, rule := range r.Rules {
		for _, c := range rule.Conds {
			if c.Kind != api.CondTest && c.Args[:len(c.Args)+1][len(c.Args)].Value != number(77) {
				t.Errorf("%+v", c)
			}
		}
	}
}

// R3: facts that were handed in are not kept: what is written over them changes no answer, neither then nor as others come and go.
func TestFactsAreNotKept(t *testing.T) {
	r := program(t, "p(?x); e(?x, ?y);", "not e(5, 6);", "e(5, _); p(5);", "p(?x); not p(7); e(?x, 7);")
	k := pairOf(t, r)
	rows := [][]api.Value{numbers(5), numbers(5, 6), numbers(5, 7)}
	k.addAll(fact(1, pType, rows[0]...), fact(2, eType, rows[1]...), fact(3, eType, rows[2]...))
	n := made(t, r)
	for at, kind := range []int{pType, eType, eType} {
		if err := n.Add(api.Fact{Id: at + 1, Type: kind, Args: rows[at]}); err != api.OK {
			t.Error(err)
		}
		for i := range rows[at] {
			rows[at][i] = name("z")
		}
	}
	mustTell(t, n, 3, k.tokens...)
	for _, id := range []int{1, 2, 3} {
		saved := k.facts[id-1]
		mustDrop(t, n, id)
		k.drop(id)
		mustTell(t, n, 2, k.tokens...)
		mustAdd(t, n, saved)
		k.add(saved)
		mustTell(t, n, 3, k.tokens...)
	}
	mustAdd(t, n, p(4, 7), p(5, 5))
	k.addAll(p(4, 7), p(5, 5))
	mustTell(t, n, 5, k.tokens...)
	mustDrop(t, n, 4)
	k.drop(4)
	mustTell(t, n, 4, k.tokens...)
}

// R3, R4: two nets of the same rules know nothing of each other.
func TestNetsLieApart(t *testing.T) {
	r := program(t, "p(?x); not q(?x);", "p(_); p(_);", "not q(1); p(_);")
	one, other := pairOf(t, r), pairOf(t, r)
	one.addAll(p(1, 1), p(2, 2), q(3, 1))
	other.mustAgree()
	other.addAll(p(1, 2), q(2, 2))
	one.mustAgree()
	if err := other.drop(3); err != api.ErrNone {
		t.Error(err)
	}
	one.drop(3)
	other.mustAgree()
	for id := 10; one.add(p(id, 1)) == api.OK; id++ {
	}
	other.mustAgree()
	other.addAll(p(500, 1), p(3, 7))
	one.mustAgree()
	one.drop(1)
	other.drop(1)
	one.mustAgree()
}

// R3: a net that is copied as a struct is the same net; what was told of it ahead stays as it was told.
func TestToldStays(t *testing.T) {
	n := made(t, program(t, "p(?x); not q(?x);"))
	mustAdd(t, n, p(1, 1), p(2, 2))
	ahead := n.Tokens()
	mustAdd(t, n, q(3, 1), p(4, 4))
	mustDrop(t, n, 2)
	if !same(ahead, tokens(0, []int{1}, []int{2})) {
		t.Errorf("%v", ahead)
	}
	mustTell(t, n, 3, token(0, 4))
}

// R4: nets of the same rules and facts tell the same, many at once, each time.
func TestAtOnce(t *testing.T) {
	r := program(t, "p(?x); e(?x, ?y); not q(?y); test ?x < ?y;", "e(1, ?x); e('a, ?x);", "not e(1, _); p(_);", "p(?x); p(?x); q(?x);")
	var steps []api.Fact
	c := chanceOf(1)
	for range 60 {
		steps = append(steps, c.fact(1+c.Intn(20), r.Types))
	}
	run := func() [][]api.Token {
		n := rete.New(r)
		var all [][]api.Token
		for i, f := range steps {
			if n.Add(f) != api.OK {
				n.Drop(f.Id)
			}
			if i%7 == 0 {
				n.Drop(i % 20)
			}
			all = append(all, n.Tokens())
		}
		return all
	}
	want := run()
	var all sync.WaitGroup
	for range 8 {
		all.Go(func() {
			for range 20 {
				if !reflect.DeepEqual(run(), want) {
					t.Error("not the same")
				}
			}
		})
	}
	all.Wait()
}
