package check_test

import (
	"fmt"
	"reflect"
	"slices"
	"strconv"
	"strings"
	"testing"

	"ropewalk/api"
	"ropewalk/check"
	"ropewalk/parse"
)

const (
	most = 1<<63 - 1
	far  = 1<<31 - 1
)

func number(n int64) api.Value { return api.Value{Kind: api.Int, Num: n} }

func name(text string) api.Value { return api.Value{Kind: api.Name, Text: text} }

func blank() api.Arg { return api.Arg{Kind: api.ArgAny} }

func bind(variable int) api.Arg { return api.Arg{Kind: api.ArgBind, Var: variable} }

func same(variable int) api.Arg { return api.Arg{Kind: api.ArgVar, Var: variable} }

func is(v api.Value) api.Arg { return api.Arg{Kind: api.ArgConst, Value: v} }

func fact(kind int, args ...api.Arg) api.Cond {
	return api.Cond{Kind: api.CondFact, Type: kind, Args: args}
}

func not(kind int, args ...api.Arg) api.Cond {
	return api.Cond{Kind: api.CondNot, Type: kind, Args: args}
}

func test(x api.Expr) api.Cond { return api.Cond{Kind: api.CondTest, Test: x} }

func assert(kind int, exprs ...api.Expr) api.Act {
	return api.Act{Kind: api.ActAssert, Type: kind, Exprs: exprs}
}

func retract(which int) api.Act { return api.Act{Kind: api.ActRetract, Which: which} }

func say(exprs ...api.Expr) api.Act { return api.Act{Kind: api.ActSay, Exprs: exprs} }

func halt() api.Act { return api.Act{Kind: api.ActHalt} }

func constant(v api.Value) api.Expr { return api.Expr{Kind: api.ExprConst, Value: v} }

func one(n int64) api.Expr { return constant(number(n)) }

func variable(n int) api.Expr { return api.Expr{Kind: api.ExprVar, Var: n} }

func op(o api.Op, kids ...api.Expr) api.Expr { return api.Expr{Kind: api.ExprOp, Op: o, Kids: kids} }

// rules are of the types p, of two fields, q, of none, and one rule.
func rules(r api.Rule) api.Rules {
	return api.Rules{Types: []api.Type{{Name: "p", Fields: 2}, {Name: "q"}}, Rules: []api.Rule{r}}
}

// around is a source of such types, and one rule.
func around(body string) string { return "fact p(a, b); fact q(); rule r { " + body + " }" }

// deep is v in memory of its own, with nil for lists without elements.
func deep[T any](v T) T {
	return deepValue(reflect.ValueOf(&v).Elem()).Interface().(T)
}

func deepValue(v reflect.Value) reflect.Value {
	switch v.Kind() {
	case reflect.Slice:
		if v.Len() == 0 {
			return reflect.Zero(v.Type())
		}
		own := reflect.MakeSlice(v.Type(), v.Len(), v.Len())
		for i := range v.Len() {
			own.Index(i).Set(deepValue(v.Index(i)))
		}
		return own
	case reflect.Struct:
		own := reflect.New(v.Type()).Elem()
		for i := range v.NumField() {
			own.Field(i).Set(deepValue(v.Field(i)))
		}
		return own
	}
	return v
}

func alike[T any](a, b T) bool { return reflect.DeepEqual(deep(a), deep(b)) }

// brief is v as a text for a test's report, cut where it is long.
func brief(v any) string { return fmt.Sprintf("%.1000s", fmt.Sprintf("%+v", v)) }

// stretch is a part of memory, from one place to another one.
type stretch struct{ from, to uintptr }

// stretches are what lists in v take, with what they may grow into.
func stretches(v reflect.Value) []stretch {
	var l []stretch
	switch v.Kind() {
	case reflect.Slice:
		if size := uintptr(v.Cap()) * v.Type().Elem().Size(); size > 0 {
			l = append(l, stretch{v.Pointer(), v.Pointer() + size})
		}
		for i := range v.Len() {
			l = append(l, stretches(v.Index(i))...)
		}
	case reflect.Struct:
		for i := range v.NumField() {
			l = append(l, stretches(v.Field(i))...)
		}
	}
	return l
}

// mustLieApart tells whether no list of the rules is of memory of another one, or of n.
func mustLieApart(t *testing.T, n api.Node, told ...api.Rules) {
	t.Helper()
	var l []stretch
	for _, r := range told {
		l = append(l, stretches(reflect.ValueOf(r))...)
	}
	byPlace := func(a, b stretch) int { return int(a.from) - int(b.from) }
	for _, s := range stretches(reflect.ValueOf(n)) {
		if slices.ContainsFunc(l, func(o stretch) bool { return o.from < s.to && s.from < o.to }) {
			t.Errorf("what is told shares memory with the tree %s", brief(n))
		}
	}
	slices.SortFunc(l, byPlace)
	for i := 1; i < len(l); i++ {
		if l[i-1].to > l[i].from {
			t.Errorf("lists that are told share memory, of the tree %s", brief(n))
		}
	}
}

// moved is n with all places moved.
func moved(n api.Node) api.Node {
	n = deep(n)
	for _, p := range parts(&n) {
		p.At = movedPlace(p.At)
	}
	return n
}

func movedPlace(at int) int { return 1000000 - 3*at }

// parts points to n and to all below.
func parts(n *api.Node) []*api.Node {
	l := []*api.Node{n}
	for i := range n.Kids {
		l = append(l, parts(&n.Kids[i])...)
	}
	return l
}

// told is what Make tells of n: the same each time, in memory of its own, right, if there is no fault, and wherever things stand; n stays as it is.
func told(t *testing.T, n api.Node) (api.Rules, api.Fault) {
	t.Helper()
	before := deep(n)
	r, fault := check.Make(n)
	again, faultAgain := check.Make(n)
	if !alike(r, again) || fault != faultAgain {
		t.Errorf("%s, %v; then %s, %v", brief(r), fault, brief(again), faultAgain)
	}
	if !alike(n, before) {
		t.Errorf("%s was changed to %s", brief(before), brief(n))
	}
	mustLieApart(t, n, r, again)
	if fault.Err == api.OK && (fault.At != 0 || !check.Right(r)) {
		t.Errorf("%v, and not right: %s, of %s", fault, brief(r), brief(n))
	}
	if fault.Err != api.OK && !alike(r, api.Rules{}) {
		t.Errorf("%v, and %s, of %s", fault, brief(r), brief(n))
	}
	if fault.Err != api.ErrShape {
		mustBeMoved(t, n, r, fault)
	}
	return r, fault
}

// mustBeMoved holds what is told of n at other places against r and fault.
func mustBeMoved(t *testing.T, n api.Node, r api.Rules, fault api.Fault) {
	t.Helper()
	if fault.Err != api.OK {
		fault.At = movedPlace(fault.At)
	}
	if other, otherFault := check.Make(moved(n)); !alike(other, r) || otherFault != fault {
		t.Errorf("%s: at other places %s, %v, not %v", brief(n), brief(other), otherFault, fault)
	}
}

// toldOf is what is told of the tree of s, by Make and by Source.
func toldOf(t *testing.T, s string) (api.Rules, api.Fault) {
	t.Helper()
	n, fault := parse.Program(s)
	if fault != (api.Fault{}) {
		t.Fatalf("%.200q: %v", s, fault)
	}
	r, fault := told(t, n)
	if of, faultOf := check.Source(s); !alike(of, r) || faultOf != fault {
		t.Errorf("%.200q: %s, %v; as a source %s, %v", s, brief(r), fault, brief(of), faultOf)
	}
	return r, fault
}

// mustMake holds the rules that s says against want.
func mustMake(t *testing.T, s string, want api.Rules) {
	t.Helper()
	r, fault := toldOf(t, s)
	if fault != (api.Fault{}) || !alike(r, want) {
		t.Errorf("%.200q: %s, %v, not %s", s, brief(r), fault, brief(want))
	}
}

// mustBeRight makes rules of s, whichever they are.
func mustBeRight(t *testing.T, s string) api.Rules {
	t.Helper()
	r, fault := toldOf(t, s)
	if fault != (api.Fault{}) {
		t.Errorf("%.200q: %v", s, fault)
	}
	return r
}

// P8.1, P8.2: the chapter's examples.
func TestExamples(t *testing.T) {
	mustMake(t, "fact p(a, b); rule r { p(?x, 1); p(?x, ?y); => assert p(?y, ?x + 1); retract 2; }", api.Rules{
		Types: []api.Type{{Name: "p", Fields: 2}},
		Rules: []api.Rule{{Name: "r", Vars: 2,
			Conds: []api.Cond{fact(0, bind(0), is(number(1))), fact(0, same(0), bind(1))},
			Acts:  []api.Act{assert(0, variable(1), op(api.OpAdd, variable(0), one(1))), retract(1)}}}})
	for s, want := range map[string]api.Fault{
		"rule r { q(); => halt; }":                  {Err: api.ErrName, At: 9},
		"fact p(a); rule r { not p(?x); => halt; }": {Err: api.ErrUnbound, At: 26},
		"rule r { => retract 1; }":                  {Err: api.ErrWhich, At: 12},
	} {
		if _, fault := toldOf(t, s); fault != want {
			t.Errorf("%q: %v, not %v", s, fault, want)
		}
	}
}

// P8.2: a program of nothing, and rules and types of nothing.
func TestNothing(t *testing.T) {
	mustMake(t, "", api.Rules{})
	mustMake(t, "rule r { => }", api.Rules{Rules: []api.Rule{{Name: "r"}}})
	mustMake(t, "fact p();", api.Rules{Types: []api.Type{{Name: "p"}}})
	mustMake(t, "fact p(); rule r { p(); not p(); => assert p(); }", api.Rules{
		Types: []api.Type{{Name: "p"}},
		Rules: []api.Rule{{Name: "r", Conds: []api.Cond{fact(0), not(0)}, Acts: []api.Act{assert(0)}}}})
	if r, fault := check.Make(api.Node{Kind: api.NodeProgram, At: 7, Kids: []api.Node{}}); !alike(r, api.Rules{}) || fault != (api.Fault{}) {
		t.Errorf("%v, %v", r, fault)
	}
}

// everything has nodes of each kind.
const everything = `
rule up salience -3 {
	hive(_, ?x, -5, 'bee); q(); not hive('rule, 12, ?x, _); pair(?y, ?x); test not ?x or ?y > -7 - 'a;
	=> assert hive(?x, 0, 'b, 2 * ?y); retract 3; say ?x, 3, 'c, 1 <= ?y; halt;
}
fact q();
fact hive(u, v, w, x);
rule idle { => }
fact pair(b, a);
`

// P8.2: nodes of each kind, in one program, whose rules stand ahead of the types.
func TestEverything(t *testing.T) {
	n, _ := parse.Program(everything)
	met := map[api.NodeKind]int{}
	for _, p := range parts(&n) {
		met[p.Kind]++
	}
	if len(met) != 16 {
		t.Errorf("%v", met)
	}
	x, y := variable(0), variable(1)
	mustMake(t, everything, api.Rules{
		Types: []api.Type{{Name: "q"}, {Name: "hive", Fields: 4}, {Name: "pair", Fields: 2}},
		Rules: []api.Rule{{Name: "up", Salience: -3, Vars: 2,
			Conds: []api.Cond{
				fact(1, blank(), bind(0), is(number(-5)), is(name("bee"))),
				fact(0),
				not(1, is(name("rule")), is(number(12)), same(0), blank()),
				fact(2, bind(1), same(0)),
				test(op(api.OpOr, op(api.OpNot, x), op(api.OpLt, op(api.OpSub, op(api.OpNeg, one(7)), constant(name("a"))), y))),
			},
			Acts: []api.Act{
				assert(1, x, one(0), constant(name("b")), op(api.OpMul, one(2), y)),
				retract(2),
				say(x, one(3), constant(name("c")), op(api.OpLe, one(1), y)),
				halt(),
			}}, {Name: "idle"}}})
}

// P8.2: types and rules in any order: those of one kind stay in theirs, and rules name types by their places among these.
func TestOrders(t *testing.T) {
	declarations := []string{"fact p(a);", "fact q(a);", "fact s(a);", "rule x { p(?v); q(1); => }", "rule y { s(?v); => assert q(?v); }"}
	orders := 0
	permuted(declarations, func(l []string) {
		orders++
		var want api.Rules
		place := map[string]int{}
		for _, d := range l {
			if d[:4] == "fact" {
				place[d[5:6]] = len(place)
				want.Types = append(want.Types, api.Type{Name: d[5:6], Fields: 1})
			}
		}
		for _, d := range l {
			switch d[:6] {
			case "rule x":
				want.Rules = append(want.Rules, api.Rule{Name: "x", Vars: 1, Conds: []api.Cond{fact(place["p"], bind(0)), fact(place["q"], is(number(1)))}})
			case "rule y":
				want.Rules = append(want.Rules, api.Rule{Name: "y", Vars: 1, Conds: []api.Cond{fact(place["s"], bind(0))}, Acts: []api.Act{assert(place["q"], variable(0))}})
			}
		}
		mustMake(t, strings.Join(l, "\n"), want)
	})
	if orders != 120 {
		t.Errorf("%d orders", orders)
	}
}

// permuted calls for each order of l.
func permuted(l []string, call func([]string)) {
	var from func(i int)
	from = func(i int) {
		if i == len(l) {
			call(l)
		}
		for k := i; k < len(l); k++ {
			l[i], l[k] = l[k], l[i]
			from(i + 1)
			l[i], l[k] = l[k], l[i]
		}
	}
	from(0)
}

// P8.2: each operator, as a test, an assertion's, what is said, and below another one.
func TestOperators(t *testing.T) {
	x, y := variable(0), variable(1)
	for text, o := range map[string]api.Op{"+": api.OpAdd, "-": api.OpSub, "*": api.OpMul, "=": api.OpEq, "!=": api.OpNe, "<": api.OpLt, "<=": api.OpLe, "and": api.OpAnd, "or": api.OpOr} {
		mustSay(t, "?x "+text+" ?y", op(o, x, y))
		mustSay(t, "?y "+text+" ?x", op(o, y, x))
		mustSay(t, "?x "+text+" 1", op(o, x, one(1)))
		mustSay(t, "?x "+text+" (?y "+text+" 2)", op(o, x, op(o, y, one(2))))
		mustSay(t, "(?x "+text+" ?y) "+text+" 2", op(o, op(o, x, y), one(2)))
	}
	for text, o := range map[string]api.Op{">": api.OpLt, ">=": api.OpLe} {
		mustSay(t, "?x "+text+" ?y", op(o, y, x))
		mustSay(t, "?y "+text+" ?x", op(o, x, y))
		mustSay(t, "?x "+text+" 1", op(o, one(1), x))
		mustSay(t, "1 "+text+" 'a", op(o, constant(name("a")), one(1)))
		mustSay(t, "?x "+text+" (?y "+text+" 2)", op(o, op(o, one(2), y), x))
		mustSay(t, "(?x "+text+" ?y) "+text+" 2", op(o, one(2), op(o, y, x)))
		mustSay(t, "(?x - 1) "+text+" (2 - ?y)", op(o, op(api.OpSub, one(2), y), op(api.OpSub, x, one(1))))
		mustSay(t, "(?x < 1) "+text+" (2 <= ?y)", op(o, op(api.OpLe, one(2), y), op(api.OpLt, x, one(1))))
		mustSay(t, "(?x "+text+" 1) < 2", op(api.OpLt, op(o, one(1), x), one(2)))
	}
	for text, o := range map[string]api.Op{"-": api.OpNeg, "not ": api.OpNot} {
		mustSay(t, text+"?x", op(o, x))
		mustSay(t, text+"1", op(o, one(1)))
		mustSay(t, text+"'a", op(o, constant(name("a"))))
		mustSay(t, text+text+"?x", op(o, op(o, x)))
		mustSay(t, text+"(?x - ?y)", op(o, op(api.OpSub, x, y)))
		mustSay(t, text+"?x - "+text+"?y", op(api.OpSub, op(o, x), op(o, y)))
	}
}

// mustSay holds an expression, wherever one may stand, against want; ?x is 0, ?y is 1.
func mustSay(t *testing.T, text string, want api.Expr) {
	t.Helper()
	mustMake(t, around("p(?x, ?y); test "+text+"; => assert p("+text+", 0); say 1, "+text+"; halt;"), rules(api.Rule{Name: "r", Vars: 2,
		Conds: []api.Cond{fact(0, bind(0), bind(1)), test(want)},
		Acts:  []api.Act{assert(0, want, one(0)), say(one(1), want), halt()}}))
}

// P8.2: expressions of no operator, and mixed ones.
func TestExpressions(t *testing.T) {
	x, y := variable(0), variable(1)
	mustSay(t, "?x", x)
	mustSay(t, "?y", y)
	mustSay(t, "5", one(5))
	mustSay(t, "'a", constant(name("a")))
	mustSay(t, "1 + 2 * ?x - -3", op(api.OpSub, op(api.OpAdd, one(1), op(api.OpMul, one(2), x)), op(api.OpNeg, one(3))))
	mustSay(t, "?x = ?y or ?x != 'b and not ?y >= 2", op(api.OpOr, op(api.OpEq, x, y), op(api.OpAnd, op(api.OpNe, x, constant(name("b"))), op(api.OpLe, one(2), op(api.OpNot, y)))))
	mustSay(t, "((?x))", x)
	long := strings.Repeat("1 + ", 20) + "?x"
	r := mustBeRight(t, around("p(?x, ?y); test "+long+"; =>"))
	e := r.Rules[0].Conds[1].Test
	for range 19 {
		if e.Op != api.OpAdd || len(e.Kids) != 2 || !alike(e.Kids[1], one(1)) && !alike(e.Kids[1], x) {
			t.Errorf("%v", e)
			break
		}
		e = e.Kids[0]
	}
}

// P8.2: values that numbers and names say, in conditions and in expressions.
func TestValues(t *testing.T) {
	full := strings.Repeat("ab_0", 6)
	for text, v := range map[string]api.Value{
		"0": number(0), "1": number(1), "007": number(7), "000": number(0), "12": number(12),
		"9223372036854775807": number(most), "009223372036854775807": number(most), "2147483648": number(1 << 31),
		"'a": name("a"), "'x_1": name("x_1"), "'" + full: name(full), "'rule": name("rule"), "'not": name("not"), "'fact": name("fact"), "'p": name("p"), "'r": name("r"),
	} {
		mustSay(t, text, constant(v))
		mustAsk(t, text, v)
	}
	for text, v := range map[string]api.Value{
		"-0": number(0), "-1": number(-1), "-007": number(-7), "- 12": number(-12), "-9223372036854775807": number(-most), "-0009223372036854775807": number(-most), "-9223372036854775806": number(1 - most),
	} {
		mustAsk(t, text, v)
	}
	mustSay(t, "-9223372036854775807", op(api.OpNeg, one(most)))
	mustSay(t, "-0", op(api.OpNeg, one(0)))
}

// mustAsk holds an argument of a condition, in each place, against v.
func mustAsk(t *testing.T, text string, v api.Value) {
	t.Helper()
	mustMake(t, around("p("+text+", _); not p(_, "+text+"); p("+text+", "+text+"); =>"), rules(api.Rule{Name: "r",
		Conds: []api.Cond{fact(0, is(v), blank()), not(0, blank(), is(v)), fact(0, is(v), is(v))}}))
}

// P8.2: where variables are bound, and where not any more.
func TestVariables(t *testing.T) {
	for body, want := range map[string][]api.Cond{
		"p(?x, ?x); =>":                         {fact(0, bind(0), same(0))},
		"p(?x, ?y); =>":                         {fact(0, bind(0), bind(1))},
		"p(?y, ?x); =>":                         {fact(0, bind(0), bind(1))},
		"p(_, ?x); p(?x, _); =>":                {fact(0, blank(), bind(0)), fact(0, same(0), blank())},
		"p(?x, ?y); p(?y, ?x); p(?z, ?y); =>":   {fact(0, bind(0), bind(1)), fact(0, same(1), same(0)), fact(0, bind(2), same(1))},
		"p(?x, 1); not p(?x, ?x); p(2, ?y); =>": {fact(0, bind(0), is(number(1))), not(0, same(0), same(0)), fact(0, is(number(2)), bind(1))},
		"p(?x, _); test ?x; p(?y, ?x); =>":      {fact(0, bind(0), blank()), test(variable(0)), fact(0, bind(1), same(0))},
		"p(?p, ?not); =>":                       {fact(0, bind(0), bind(1))},
	} {
		vars := 0
		for _, c := range want {
			for _, a := range c.Args {
				if a.Kind == api.ArgBind {
					vars++
				}
			}
		}
		mustMake(t, around(body), rules(api.Rule{Name: "r", Vars: vars, Conds: want}))
	}
	// Each rule has its own.
	mustMake(t, "fact p(a); rule r { p(?x); => } rule s { p(?y); p(?x); => say ?x, ?y; }", api.Rules{
		Types: []api.Type{{Name: "p", Fields: 1}},
		Rules: []api.Rule{
			{Name: "r", Vars: 1, Conds: []api.Cond{fact(0, bind(0))}},
			{Name: "s", Vars: 2, Conds: []api.Cond{fact(0, bind(0)), fact(0, bind(1))}, Acts: []api.Act{say(variable(1), variable(0))}}}})
}

// P8.2: retract counts the conditions that ask for a fact, from 1 on; what is told, from 0 on.
func TestRetract(t *testing.T) {
	mustMake(t, around("q(); not q(); p(_, _); test 1; q(); => retract 3; retract 1; retract 2; retract 1;"), rules(api.Rule{Name: "r",
		Conds: []api.Cond{fact(1), not(1), fact(0, blank(), blank()), test(one(1)), fact(1)},
		Acts:  []api.Act{retract(2), retract(0), retract(1), retract(0)}}))
}

// P8.2: saliences, as they are said.
func TestSaliences(t *testing.T) {
	for text, want := range map[string]int{"": 0, " salience 0": 0, " salience -0": 0, " salience 1": 1, " salience -1": -1, " salience 1000": 1000, " salience -1000": -1000, " salience 0999": 999, " salience - 999": -999} {
		mustMake(t, "rule r"+text+" { => }", api.Rules{Rules: []api.Rule{{Name: "r", Salience: want}}})
	}
}

// P8.2: types of as many fields as may be, by their names; those of a field's or a rule's name, too.
func TestTypes(t *testing.T) {
	full := strings.Repeat("ab_0", 6)
	mustMake(t, "fact p(p, r); rule r { => } rule p { => } fact r(p, r); fact "+full+"("+full+");", api.Rules{
		Types: []api.Type{{Name: "p", Fields: 2}, {Name: "r", Fields: 2}, {Name: full, Fields: 1}},
		Rules: []api.Rule{{Name: "r"}, {Name: "p"}}})
	for fields, l := 0, []string{}; fields <= api.MaxFields; fields++ {
		mustMake(t, "fact p("+strings.Join(l, ",")+");", api.Rules{Types: []api.Type{{Name: "p", Fields: fields}}})
		l = append(l, "f"+strconv.Itoa(fields))
	}
}

// P8.2: what is told hangs on nothing but the tree: that of a tree whose lists without elements are not nil.
func TestEmptyLists(t *testing.T) {
	n, _ := parse.Program(everything)
	want, _ := check.Make(n)
	for _, p := range parts(&n) {
		if p.Kids == nil {
			p.Kids = []api.Node{}
		}
	}
	if r, fault := told(t, n); !alike(r, want) || fault != (api.Fault{}) {
		t.Errorf("%s, %v", brief(r), fault)
	}
}
