package naive_test

import (
	"math/rand"
	"slices"
	"testing"

	"ropewalk/api"
	"ropewalk/naive"
	"ropewalk/value"
)

// says is what an expression says over variables; false, where it is an error.
func says(x api.Expr, vars map[int]api.Value) (api.Value, bool) {
	switch x.Kind {
	case api.ExprConst:
		return x.Value, true
	case api.ExprVar:
		v, is := vars[x.Var]
		return v, is
	}
	var kids []api.Value
	for _, k := range x.Kids {
		v, is := says(k, vars)
		if !is {
			return api.Value{}, false
		}
		kids = append(kids, v)
	}
	v, err := value.Do(x.Op, kids...)
	return v, err == api.OK
}

// fits tells whether a fact is what a condition asks for, and what the variables are behind it.
func fits(c api.Cond, f api.Fact, vars map[int]api.Value) (map[int]api.Value, bool) {
	behind := map[int]api.Value{}
	for n, v := range vars {
		behind[n] = v
	}
	if f.Type != c.Type {
		return nil, false
	}
	for i, a := range c.Args {
		v := f.Args[i]
		was, is := behind[a.Var]
		if a.Kind == api.ArgVar && (!is || was != v) || a.Kind == api.ArgConst && a.Value != v {
			return nil, false
		}
		if a.Kind == api.ArgBind {
			behind[a.Var] = v
		}
	}
	return behind, true
}

// holds tells whether conditions hold of one fact for each CondFact, condition by condition, and what the variables are then.
func holds(conds []api.Cond, row []api.Fact, facts []api.Fact) (map[int]api.Value, bool) {
	vars := map[int]api.Value{}
	for _, c := range conds {
		switch c.Kind {
		case api.CondFact:
			behind, is := fits(c, row[0], vars)
			if !is {
				return nil, false
			}
			vars, row = behind, row[1:]
		case api.CondNot:
			if slices.ContainsFunc(facts, func(f api.Fact) bool { _, is := fits(c, f, vars); return is }) {
				return nil, false
			}
		case api.CondTest:
			if v, is := says(c.Test, vars); !is || v.Kind != api.Int || v.Num == 0 {
				return nil, false
			}
		}
	}
	return vars, true
}

func asks(conds []api.Cond) int {
	n := 0
	for _, c := range conds {
		if c.Kind == api.CondFact {
			n++
		}
	}
	return n
}

// rows are all rows of so many of the facts, the first that differ ahead.
func rows(n int, facts []api.Fact) [][]api.Fact {
	l := [][]api.Fact{nil}
	for range n {
		var longer [][]api.Fact
		for _, row := range l {
			for _, f := range facts {
				longer = append(longer, append(slices.Clone(row), f))
			}
		}
		l = longer
	}
	return l
}

func idsOf(row []api.Fact) []int {
	var ids []int
	for _, f := range row {
		ids = append(ids, f.Id)
	}
	return ids
}

// plainly is the chapter's own words: all rows of facts are held against the first k conditions, for each k.
func plainly(r api.Rules, facts []api.Fact) ([]api.Token, api.Errno) {
	var l []api.Token
	all := 0
	for n, rule := range r.Rules {
		for k := range len(rule.Conds) + 1 {
			conds := rule.Conds[:k]
			for _, row := range rows(asks(conds), facts) {
				_, is := holds(conds, row, facts)
				if is && k > 0 {
					all++
				}
				if is && k == len(rule.Conds) {
					l = append(l, token(n, idsOf(row)...))
				}
			}
		}
	}
	if all > api.MaxTokens {
		return nil, api.ErrMany
	}
	return l, api.OK
}

// varsOf is what the rule's variables are, by their numbers.
func varsOf(rule api.Rule, vars map[int]api.Value) []api.Value {
	var l []api.Value
	for n := range rule.Vars {
		l = append(l, vars[n])
	}
	return l
}

// mustAgree holds Tokens against the plain reading; it tells how many matches there are, and the error.
func mustAgree(t *testing.T, r api.Rules, facts []api.Fact) (int, api.Errno) {
	t.Helper()
	want, err := plainly(r, facts)
	if err != api.OK {
		mustRefuse(t, err, r, facts...)
	} else {
		mustTell(t, r, facts, want...)
	}
	return len(want), err
}

// mustAgreeOnVars holds Vars of all rows of facts against the plain reading.
func mustAgreeOnVars(t *testing.T, r api.Rules, facts []api.Fact) {
	t.Helper()
	for n, rule := range r.Rules {
		for _, row := range rows(asks(rule.Conds), facts) {
			vars, is := holds(rule.Conds, row, facts)
			told, has := naive.Vars(r, token(n, idsOf(row)...), facts...)
			if has != is || is && !slices.Equal(told, varsOf(rule, vars)) || !is && told != nil {
				t.Errorf("%+v, %v, %s: %v, %v, not %v, %v", rule, idsOf(row), brief(facts), told, has, vars, is)
			}
		}
	}
}

// chance makes right rules and facts that are right for them.
type chance struct{ *rand.Rand }

func (c chance) value() api.Value {
	return []api.Value{number(0), number(1), number(2), name("a")}[c.Intn(4)]
}

func (c chance) expr(bound, deep int) api.Expr {
	switch {
	case bound > 0 && c.Intn(2) == 0:
		return api.Expr{Kind: api.ExprVar, Var: c.Intn(bound)}
	case deep == 0 || c.Intn(3) == 0:
		return api.Expr{Kind: api.ExprConst, Value: c.value()}
	}
	x := api.Expr{Kind: api.ExprOp, Op: api.Op(1 + c.Intn(11)), Kids: []api.Expr{c.expr(bound, deep-1)}}
	if x.Op != api.OpNeg && x.Op != api.OpNot {
		x.Kids = append(x.Kids, c.expr(bound, deep-1))
	}
	return x
}

// args makes a condition's arguments, and tells how many variables are bound behind them.
func (c chance) args(n, bound int, binds bool) ([]api.Arg, int) {
	var l []api.Arg
	for range n {
		switch i := c.Intn(8); {
		case i == 0:
			l = append(l, api.Arg{Kind: api.ArgConst, Value: c.value()})
		case i == 1 || i > 4 && !binds:
			l = append(l, api.Arg{Kind: api.ArgAny})
		case i > 4 || bound == 0 && binds:
			l = append(l, api.Arg{Kind: api.ArgBind, Var: bound})
			bound++
		case bound > 0:
			l = append(l, api.Arg{Kind: api.ArgVar, Var: c.Intn(bound)})
		default:
			l = append(l, api.Arg{Kind: api.ArgAny})
		}
	}
	return l, bound
}

// rule makes a rule of at most that many CondFacts.
func (c chance) rule(at, most int, types []api.Type) api.Rule {
	r := api.Rule{Name: string(rune('a' + at)), Salience: c.Intn(3) - 1}
	for range c.Intn(6) {
		kind := api.CondKind(1 + c.Intn(3))
		if c.Intn(3) == 0 || kind == api.CondTest && r.Vars == 0 {
			kind = api.CondFact
		}
		if kind == api.CondFact && asks(r.Conds) == most {
			kind = api.CondNot
		}
		if kind == api.CondTest {
			r.Conds = append(r.Conds, api.Cond{Kind: kind, Test: c.expr(r.Vars, 2)})
			continue
		}
		cond := api.Cond{Kind: kind, Type: c.Intn(len(types))}
		cond.Args, r.Vars = c.args(types[cond.Type].Fields, r.Vars, kind == api.CondFact)
		r.Conds = append(r.Conds, cond)
	}
	return r
}

func (c chance) rules(rules, most int) api.Rules {
	r := api.Rules{Types: []api.Type{{Name: "p", Fields: 1}, {Name: "e", Fields: 2}, {Name: "none"}, {Name: "t", Fields: 3}}[:1+c.Intn(4)]}
	for n := range rules {
		r.Rules = append(r.Rules, c.rule(n, most, r.Types))
	}
	return r
}

func (c chance) facts(many int, types []api.Type) []api.Fact {
	var l []api.Fact
	id := 0
	for range many {
		id += 1 + c.Intn(3)*c.Intn(100)
		f := fact(id, c.Intn(len(types)))
		for range types[f.Type].Fields {
			f.Args = append(f.Args, c.value())
		}
		l = append(l, f)
	}
	return l
}

// P12.1, P12.2: any right rules over any facts, against the plain reading.
func TestAnyPlainly(t *testing.T) {
	met := map[int]int{}
	for i := range 2500 {
		c := chance{rand.New(rand.NewSource(int64(i)))}
		r := c.rules(1+c.Intn(4), 3)
		facts := c.facts(c.Intn(9), r.Types)
		n, err := mustAgree(t, r, facts)
		if err != api.OK {
			t.Error(err)
		}
		mustAgreeOnVars(t, r, facts)
		met[min(n, 9)]++
	}
	if met[0] < 300 || met[1] < 300 || met[9] < 200 {
		t.Errorf("%v", met)
	}
}

// P12.1: rules of one type with many matches, of which there may be too many, against the plain reading.
func TestManyPlainly(t *testing.T) {
	met := map[api.Errno]int{}
	for i := range 60 {
		c := chance{rand.New(rand.NewSource(int64(i)))}
		r := c.rules(4, 2)
		r.Types = r.Types[:1:1]
		for n := range r.Rules {
			r.Rules[n] = c.rule(n, 2, r.Types)
		}
		_, err := mustAgree(t, r, c.facts(30+c.Intn(40), r.Types))
		met[err]++
	}
	if met[api.OK] < 10 || met[api.ErrMany] < 10 || met[api.OK]+met[api.ErrMany] != 60 {
		t.Errorf("%v", met)
	}
}

// P12.1, P12.2: all rules of two conditions of a few, over all rows of a few facts.
func TestAllShortPlainly(t *testing.T) {
	conditions := []string{"p(?x);", "p(_);", "p(1);", "not p(1);", "not p(_);", "e(?y, ?z);", "e(?u, ?u);", "not e(1, _);", "test 1;", "test 0;", "test 'a;", "test 1 + 'a;"}
	asking := []string{"", "p(?x);", "e(?x, _);", "not p(?x);", "not e(?x, ?x);", "test ?x;", "test ?x = 1;", "test ?x < 1;"}
	few := []api.Fact{p(1, 1), p(2, 0), fact(3, pType, name("a")), e(4, 1, 1), e(5, 0, 1), e(6, 1, 0)}
	var all [][]api.Fact
	for set := range 1 << len(few) {
		var l []api.Fact
		for i, f := range few {
			if set>>i&1 == 1 {
				l = append(l, f)
			}
		}
		all = append(all, l)
	}
	found := 0
	for _, first := range conditions {
		for _, second := range conditions {
			r := program(t, first+second)
			for _, facts := range all {
				n, _ := mustAgree(t, r, facts)
				mustAgreeOnVars(t, r, facts)
				found += n
			}
		}
	}
	for _, first := range asking {
		for _, second := range asking {
			r := program(t, "p(?x);"+first+second)
			for _, facts := range all {
				n, _ := mustAgree(t, r, facts)
				mustAgreeOnVars(t, r, facts)
				found += n
			}
		}
	}
	if found < 5000 {
		t.Error(found)
	}
}
