package rete_test

import (
	"math/rand"
	"slices"
	"testing"

	"ropewalk/api"
)

// chance makes right rules and facts that are right for them.
type chance struct{ *rand.Rand }

func chanceOf(seed int) chance { return chance{rand.New(rand.NewSource(int64(seed)))} }

func (c chance) value() api.Value {
	return []api.Value{number(0), number(1), number(2), name("a")}[c.Intn(4)]
}

func (c chance) expr(bound, deep int) api.Expr {
	switch {
	case bound > 0 && c.Intn(2) == 0:
		return api.Expr{Kind: api.ExprVar, Var: c.Intn(bound)}
	case deep == 0 || c.Intn(3) == 0:
		return api.Expr{Kind: api.ExprConst, Value: c.value()}
	}
	x := api.Expr{Kind: api.ExprOp, Op: api.Op(1 + c.Intn(11)), Kids: []api.Expr{c.expr(bound, deep-1)}}
	if x.Op != api.OpNeg && x.Op != api.OpNot {
		x.Kids = append(x.Kids, c.expr(bound, deep-1))
	}
	return x
}

// args makes a condition's arguments, and tells how many variables are bound behind them.
func (c chance) args(n, bound int, binds bool) ([]api.Arg, int) {
	var l []api.Arg
	for range n {
		switch i := c.Intn(8); {
		case i == 0:
			l = append(l, api.Arg{Kind: api.ArgConst, Value: c.value()})
		case i > 4 && binds:
			l = append(l, api.Arg{Kind: api.ArgBind, Var: bound})
			bound++
		case i > 1 && bound > 0:
			l = append(l, api.Arg{Kind: api.ArgVar, Var: c.Intn(bound)})
		default:
			l = append(l, api.Arg{Kind: api.ArgAny})
		}
	}
	return l, bound
}

// rule makes a rule of at most that many CondFacts.
func (c chance) rule(at, most int, types []api.Type) api.Rule {
	r := api.Rule{Name: string(rune('a' + at)), Salience: c.Intn(3) - 1}
	facts := 0
	for range c.Intn(7) {
		kind := []api.CondKind{api.CondFact, api.CondFact, api.CondNot, api.CondNot, api.CondTest}[c.Intn(5)]
		if kind == api.CondFact && facts == most {
			kind = api.CondNot
		}
		if kind == api.CondTest {
			r.Conds = append(r.Conds, api.Cond{Kind: kind, Test: c.expr(r.Vars, 2)})
			continue
		}
		cond := api.Cond{Kind: kind, Type: c.Intn(len(types))}
		cond.Args, r.Vars = c.args(types[cond.Type].Fields, r.Vars, kind == api.CondFact)
		r.Conds = append(r.Conds, cond)
		if kind == api.CondFact {
			facts++
		}
	}
	return r
}

func (c chance) rules(rules, most int) api.Rules {
	r := api.Rules{Types: []api.Type{{Name: "p", Fields: 1}, {Name: "e", Fields: 2}, {Name: "none"}, {Name: "t", Fields: 3}}[:1+c.Intn(4)]}
	for n := range rules {
		r.Rules = append(r.Rules, c.rule(n, most, r.Types))
	}
	return r
}

func (c chance) fact(id int, types []api.Type) api.Fact {
	f := fact(id, c.Intn(len(types)))
	for range types[f.Type].Fields {
		f.Args = append(f.Args, c.value())
	}
	return f
}

// id is one of a few, most often.
func (c chance) id(few int) int {
	if c.Intn(20) == 0 {
		return []int{-1, 0, api.MaxId, api.MaxId + 1, 1 << 32, 1<<32 + 1}[c.Intn(6)]
	}
	return 1 + c.Intn(few)
}

// come and go are steps of any kind; met counts the answers of those that are adds, and of those that are drops.
func (k *pair) comeAndGo(c chance, steps, few int, met map[[2]int]int) {
	k.Helper()
	for range steps {
		if c.Intn(5) < 3 {
			met[[2]int{0, int(k.add(c.fact(c.id(few), k.rules.Types)))}]++
		} else {
			met[[2]int{1, int(k.drop(c.id(few)))}]++
		}
	}
}

// P13.2 to P13.4: any right rules, and any facts that come and go, against the plain way behind each step.
func TestAnyPlainly(t *testing.T) {
	met, rows := map[[2]int]int{}, map[int]int{}
	for i := range 700 {
		c := chanceOf(i)
		k := pairOf(t, c.rules(1+c.Intn(5), 4))
		k.comeAndGo(c, 60, 2+c.Intn(11), met)
		rows[min(len(k.net.Tokens()), 9)]++
	}
	for _, answer := range [][2]int{{0, int(api.OK)}, {0, int(api.ErrArg)}, {0, int(api.ErrThere)}, {1, int(api.OK)}, {1, int(api.ErrNone)}} {
		if met[answer] < 500 {
			t.Errorf("%v: %d", answer, met[answer])
		}
	}
	if rows[0] < 50 || rows[1] < 50 || rows[9] < 30 {
		t.Errorf("%v", rows)
	}
}

// P13.2 to P13.4: rules of many matches, of which there may be too many, also as facts go: some hold as long as nothing else is there.
func TestManyPlainly(t *testing.T) {
	met := map[[2]int]int{}
	for i := range 30 {
		c := chanceOf(i)
		r := program(t, "not none(); p(_); p(_);", "p(_); not q(1); p(?x);", "")
		one, other := c.rule(3, 1, r.Types[:2]), c.rule(4, 1+i%2, r.Types[:2])
		r.Rules = append(r.Rules, one, other)
		k := pairOf(t, r)
		k.addAll(fact(1, noneType), q(2, 1))
		for step := range 160 {
			// The two that keep the matches few are tried once there are many facts.
			if step > 80+i && c.Intn(4) == 0 {
				one := []api.Fact{fact(1, noneType), q(2, 1)}[c.Intn(2)]
				if _, there := k.place(one.Id); there {
					met[[2]int{1, int(k.drop(one.Id))}]++
				} else {
					met[[2]int{0, int(k.add(one))}]++
				}
				continue
			}
			id := 3 + c.Intn(100)
			if c.Intn(10) > 0 {
				met[[2]int{0, int(k.add(fact(id, pType, c.value())))}]++
			} else {
				met[[2]int{1, int(k.drop(id))}]++
			}
		}
	}
	for _, answer := range [][2]int{{0, int(api.OK)}, {0, int(api.ErrMany)}, {1, int(api.OK)}, {1, int(api.ErrMany)}} {
		if met[answer] < 20 {
			t.Errorf("%v: %d", answer, met[answer])
		}
	}
}

// sets are all sets of facts.
func sets(few []api.Fact) [][]api.Fact {
	var all [][]api.Fact
	for set := range 1 << len(few) {
		var l []api.Fact
		for i, f := range few {
			if set>>i&1 == 1 {
				l = append(l, f)
			}
		}
		all = append(all, l)
	}
	return all
}

// gray goes from set to set of a few facts, by one that comes or goes, till all were there; the first one goes at every second step.
func (k *pair) gray(few []api.Fact) {
	k.Helper()
	for step := 1; step < 1<<len(few); step++ {
		at := 0
		for step>>at&1 == 0 {
			at++
		}
		if _, there := k.place(few[at].Id); there {
			k.drop(few[at].Id)
		} else {
			k.add(few[at])
		}
	}
}

// P13.3: all rules of two conditions of a few, over all sets of a few facts, each of which comes and goes at many of them.
func TestAllShortPlainly(t *testing.T) {
	conditions := []string{"p(?x);", "p(_);", "p(1);", "not p(1);", "not p(_);", "e(?y, ?z);", "e(?u, ?u);", "not e(1, _);", "test 1;", "test 0;", "test 'a;", "test 1 + 'a;"}
	asking := []string{"", "p(?x);", "e(?x, _);", "not p(?x);", "not e(?x, ?x);", "test ?x;", "test ?x = 1;", "test ?x < 1;"}
	few := []api.Fact{p(1, 1), p(2, 0), fact(3, pType, name("a")), e(4, 1, 1), e(5, 0, 1), e(6, 1, 0)}
	other := []api.Fact{few[3], few[5], few[0], few[4], few[2], few[1]}
	var pairs []*pair
	for _, first := range conditions {
		for _, second := range conditions {
			pairs = append(pairs, pairOf(t, program(t, first+second)))
		}
	}
	for _, first := range asking {
		for _, second := range asking {
			pairs = append(pairs, pairOf(t, program(t, "p(?x);"+first+second)))
		}
	}
	for _, k := range pairs {
		k.gray(few)
		k.gray(other)
	}
}

// P13.4: facts come in each order, and behind others that came and went: the matches are the same.
func TestEachOrder(t *testing.T) {
	r := program(t, "p(?x); e(?x, ?y); not q(?y);", "not q(1); p(?x); p(?y); test ?x < ?y;", "q(?x); not e(_, ?x); not p(?x); q(_);", "not q(_);", "e(?x, ?x); e(_, ?x);")
	few := []api.Fact{p(2, 1), e(3, 1, 2), q(5, 2), p(6, 2), e(7, 2, 2)}
	others := []api.Fact{q(1, 1), e(4, 1, 1), p(8, 0), q(9, 3), e(10, 0, 3)}
	for _, want := range sets(few) {
		first := made(t, r)
		mustAdd(t, first, want...)
		told := first.Tokens()
		for i := range 12 {
			c := chanceOf(i)
			n := made(t, r)
			order := slices.Clone(append(slices.Clone(want), others[:i%6]...))
			c.Shuffle(len(order), func(a, b int) { order[a], order[b] = order[b], order[a] })
			mustAdd(t, n, order...)
			c.Shuffle(len(order), func(a, b int) { order[a], order[b] = order[b], order[a] })
			for _, f := range order {
				back := slices.ContainsFunc(want, func(w api.Fact) bool { return w.Id == f.Id })
				if back && c.Intn(2) == 0 {
					continue
				}
				mustDrop(t, n, f.Id)
				if back {
					mustAdd(t, n, f)
				}
			}
			mustTell(t, n, len(want), told...)
		}
	}
}

// P13.4: a fact that comes and goes, however often, leaves nothing.
func TestComesAndGoesOften(t *testing.T) {
	k := pairOf(t, program(t, "p(?x); not q(?x); p(_);", "not q(1); p(_); p(_);", "q(?x); q(?y); p(?x);"))
	k.addAll(p(1, 1), p(2, 2), q(3, 3), q(7, 2))
	told := k.net.Tokens()
	for range 300 {
		mustAdd(t, k.net, q(4, 1), q(5, 2), p(6, 1))
		mustDrop(t, k.net, 4, 6, 5)
	}
	mustTell(t, k.net, 4, told...)
	k.mustAgree()
}
