package check_test

import (
	"fmt"
	"math/big"
	"math/rand"
	"reflect"
	"regexp"
	"slices"
	"strconv"
	"strings"
	"testing"

	"ropewalk/api"
	"ropewalk/check"
	"ropewalk/node"
)

// reading reads a right tree as the chapter's words say, and goes on behind faults: the first one is told.
type reading struct {
	faults []api.Fault
	rules  api.Rules
	vars   map[string]int
}

func (p *reading) fault(n api.Node, is bool, err api.Errno) {
	if is {
		p.faults = append(p.faults, api.Fault{Err: err, At: n.At})
	}
}

// plainly tells what Make ought to.
func plainly(n api.Node) (api.Rules, api.Fault) {
	p := &reading{}
	for i, k := range n.Kids {
		if k.Kind == api.NodeType {
			p.kind(k, n.Kids[:i])
		}
	}
	for i, k := range n.Kids {
		if k.Kind == api.NodeRule {
			p.rule(k, n.Kids[:i])
		}
	}
	if len(p.faults) > 0 {
		return api.Rules{}, p.faults[0]
	}
	return p.rules, api.Fault{}
}

// among tells how many of a kind there are, and how many of these have the text.
func among(l []api.Node, kind api.NodeKind, text string) (many, named int) {
	for _, n := range l {
		if n.Kind == kind {
			many++
			if n.Text == text {
				named++
			}
		}
	}
	return many, named
}

func (p *reading) kind(n api.Node, ahead []api.Node) {
	many, named := among(ahead, n.Kind, n.Text)
	p.fault(n, named > 0, api.ErrTwice)
	p.fault(n, many >= 32 || len(n.Kids) > 6, api.ErrMany)
	for i, k := range n.Kids {
		_, named := among(n.Kids[:i], k.Kind, k.Text)
		p.fault(k, named > 0, api.ErrTwice)
	}
	p.rules.Types = append(p.rules.Types, api.Type{Name: n.Text, Fields: len(n.Kids)})
}

func (p *reading) rule(n api.Node, ahead []api.Node) {
	many, named := among(ahead, n.Kind, n.Text)
	p.fault(n, named > 0, api.ErrTwice)
	p.fault(n, n.Num*n.Num > 1000000, api.ErrArg)
	conds := 0
	for _, k := range n.Kids {
		if k.Kind <= api.NodeTest {
			conds++
		}
	}
	p.fault(n, many >= 64 || conds > 8 || len(n.Kids)-conds > 8, api.ErrMany)
	p.vars = map[string]int{}
	r := api.Rule{Name: n.Text, Salience: n.Num}
	for _, k := range n.Kids {
		switch k.Kind {
		case api.NodeFact, api.NodeNot:
			c := api.Cond{Kind: map[api.NodeKind]api.CondKind{api.NodeFact: api.CondFact, api.NodeNot: api.CondNot}[k.Kind], Type: p.place(k)}
			for _, a := range k.Kids {
				c.Args = append(c.Args, p.arg(a, k.Kind == api.NodeFact))
			}
			r.Conds = append(r.Conds, c)
		case api.NodeTest:
			r.Conds = append(r.Conds, api.Cond{Kind: api.CondTest, Test: p.expr(k.Kids[0])})
		case api.NodeAssert:
			place := p.place(k)
			r.Acts = append(r.Acts, api.Act{Kind: api.ActAssert, Type: place, Exprs: p.exprs(k.Kids)})
		case api.NodeRetract:
			facts, _ := among(n.Kids, api.NodeFact, "")
			p.fault(k, k.Num == 0 || k.Num > facts, api.ErrWhich)
			r.Acts = append(r.Acts, api.Act{Kind: api.ActRetract, Which: k.Num - 1})
		case api.NodeSay:
			r.Acts = append(r.Acts, api.Act{Kind: api.ActSay, Exprs: p.exprs(k.Kids)})
		case api.NodeHalt:
			r.Acts = append(r.Acts, api.Act{Kind: api.ActHalt})
		}
	}
	r.Vars = len(p.vars)
	p.rules.Rules = append(p.rules.Rules, r)
}

func (p *reading) place(n api.Node) int {
	place := slices.IndexFunc(p.rules.Types, func(t api.Type) bool { return t.Name == n.Text })
	p.fault(n, place < 0, api.ErrName)
	p.fault(n, place >= 0 && p.rules.Types[max(place, 0)].Fields != len(n.Kids), api.ErrArity)
	return place
}

func (p *reading) arg(n api.Node, binds bool) api.Arg {
	v, bound := p.vars[n.Text]
	switch {
	case n.Kind == api.NodeAny:
		return api.Arg{Kind: api.ArgAny}
	case n.Kind != api.NodeVar:
		return api.Arg{Kind: api.ArgConst, Value: plainValue(n)}
	case bound || !binds:
		p.fault(n, !bound, api.ErrUnbound)
		return api.Arg{Kind: api.ArgVar, Var: v}
	}
	p.fault(n, len(p.vars) == 16, api.ErrMany)
	v = len(p.vars)
	p.vars[n.Text] = v
	return api.Arg{Kind: api.ArgBind, Var: v}
}

func plainValue(n api.Node) api.Value {
	if n.Kind == api.NodeAtom {
		return api.Value{Kind: api.Name, Text: n.Text}
	}
	num, _ := new(big.Int).SetString(n.Text, 10)
	return api.Value{Kind: api.Int, Num: num.Int64()}
}

func (p *reading) exprs(l []api.Node) []api.Expr {
	var made []api.Expr
	for _, n := range l {
		made = append(made, p.expr(n))
	}
	return made
}

func (p *reading) expr(n api.Node) api.Expr {
	switch n.Kind {
	case api.NodeVar:
		v, bound := p.vars[n.Text]
		p.fault(n, !bound, api.ErrUnbound)
		return api.Expr{Kind: api.ExprVar, Var: v}
	case api.NodeOp:
		kids := p.exprs(n.Kids)
		if strings.HasPrefix(n.Text, ">") {
			kids[0], kids[1] = kids[1], kids[0]
		}
		return api.Expr{Kind: api.ExprOp, Op: plainOp(n.Text, len(kids)), Kids: kids}
	}
	return api.Expr{Kind: api.ExprConst, Value: plainValue(n)}
}

func plainOp(text string, kids int) api.Op {
	if text == "-" && kids == 1 {
		return api.OpNeg
	}
	return map[string]api.Op{"+": 1, "-": 2, "*": 3, "=": 5, "!=": 6, "<": 7, ">": 7, "<=": 8, ">=": 8, "and": 9, "or": 10, "not": 11}[text]
}

// chance makes sources, the same ones each time. Of a hundred things, wrong ones are such as may be a fault.
type chance struct {
	*rand.Rand
	wrong  int
	fields map[string]int // of the types
	facts  int            // of the rule on the way
	bound  []string
}

func maker(seed int64, wrong int) *chance {
	return &chance{Rand: rand.New(rand.NewSource(seed)), wrong: wrong}
}

func (m *chance) one(of ...string) string { return of[m.Intn(len(of))] }

func (m *chance) errs() bool { return m.Intn(100) < m.wrong }

func (m *chance) some(least, most int, of func() string, between string) string {
	var l []string
	for range least + m.Intn(most-least+1) {
		l = append(l, of())
	}
	return strings.Join(l, between)
}

// program has types and rules in any order.
func (m *chance) program() string {
	m.fields = map[string]int{}
	var l []string
	for i := range m.Intn(5) {
		l = append(l, m.kind("t"+strconv.Itoa(i)))
	}
	for i := range m.Intn(4) {
		name := m.one("r", "t") + strconv.Itoa(i)
		if m.errs() {
			name = "r0"
		}
		l = append(l, m.rule(name))
	}
	m.Shuffle(len(l), func(i, k int) { l[i], l[k] = l[k], l[i] })
	return strings.Join(l, m.one(" ", "\n", ""))
}

func (m *chance) kind(name string) string {
	if m.errs() {
		name = "t0"
	}
	fields := []string{"a", "b", "c", "d", "e", "f", "g", "h"}[:m.Intn(4)]
	if m.errs() {
		fields = []string{"a", "b", "c", "d", "e", "f", "g", "h"}[:6+m.Intn(3)]
	}
	if m.errs() {
		fields = append(slices.Clone(fields), "b")
	}
	if _, is := m.fields[name]; !is {
		m.fields[name] = len(fields)
	}
	return "fact " + name + "(" + strings.Join(fields, ", ") + ");"
}

func (m *chance) rule(name string) string {
	m.facts, m.bound = 0, nil
	salience := m.one("", "", " salience 1", " salience -7", " salience 1000", " salience -1000")
	if m.errs() {
		salience = m.one(" salience 1001", " salience -1001", " salience 2147483647")
	}
	most := 8
	if m.errs() {
		most = 10
	}
	return "rule " + name + salience + " { " + m.some(0, most, m.condition, " ") + " => " + m.some(0, most, m.action, " ") + " }"
}

// called is a type's name, and how many fields it has.
func (m *chance) called() (string, int) {
	var names []string
	for name := range m.fields {
		names = append(names, name)
	}
	slices.Sort(names)
	if len(names) == 0 || m.errs() {
		return "none", m.Intn(3)
	}
	name := m.one(names...)
	fields := m.fields[name]
	if m.errs() {
		fields = m.Intn(8)
	}
	return name, fields
}

func (m *chance) condition() string {
	if len(m.fields) == 0 && !m.errs() {
		return "test " + m.expression(4) + ";"
	}
	name, fields := m.called()
	switch m.Intn(4) {
	case 0:
		return "test " + m.expression(4) + ";"
	case 1:
		return "not " + name + "(" + m.some(fields, fields, m.argument, ", ") + ");"
	}
	m.facts++
	return name + "(" + m.some(fields, fields, m.binding, ", ") + ");"
}

func (m *chance) constant() string {
	return m.one("0", "1", "007", "9223372036854775807", "'a", "'rule", "'x_1")
}

func (m *chance) argument() string {
	switch m.Intn(4) {
	case 0:
		return "_"
	case 1:
		return m.one("-1", "-9223372036854775807", "-0", m.constant())
	case 2:
		return m.constant()
	}
	return m.variable()
}

func (m *chance) binding() string {
	if m.Intn(2) == 0 {
		return m.argument()
	}
	name := m.one("?x", "?y", "?z", "?v"+strconv.Itoa(m.Intn(30)), "?v"+strconv.Itoa(m.Intn(30)))
	if !slices.Contains(m.bound, name) && (len(m.bound) < 16 || m.errs()) {
		m.bound = append(m.bound, name)
		return name
	}
	return m.argument()
}

// variable is one that is bound, or a constant, if none is.
func (m *chance) variable() string {
	if m.errs() {
		return m.one("?x", "?none", "?y")
	}
	if len(m.bound) == 0 {
		return m.constant()
	}
	return m.one(m.bound...)
}

func (m *chance) expression(deep int) string {
	if deep <= 1 || m.Intn(3) == 0 {
		return m.one(m.constant(), m.variable())
	}
	if m.Intn(4) == 0 {
		return m.one("-", "not ") + "(" + m.expression(deep-1) + ")"
	}
	return "(" + m.expression(deep-1) + ") " + m.one("or", "and", "=", "!=", "<", "<=", ">", ">=", "+", "-", "*") + " (" + m.expression(deep-1) + ")"
}

func (m *chance) said() string { return m.expression(3) }

func (m *chance) action() string {
	which := 1 + m.Intn(max(m.facts, 1))
	if m.errs() {
		which = []int{0, m.facts + 1, far}[m.Intn(3)]
	}
	kind := m.Intn(4)
	if kind == 1 && m.facts == 0 && !m.errs() || kind == 0 && len(m.fields) == 0 && !m.errs() {
		kind = 2
	}
	switch kind {
	case 0:
		name, fields := m.called()
		return "assert " + name + "(" + m.some(fields, fields, m.said, ", ") + ");"
	case 1:
		return "retract " + strconv.Itoa(which) + ";"
	case 2:
		return "say " + m.some(1, 3, m.said, ", ") + ";"
	}
	return "halt;"
}

// P8.1, P8.2: any sources, of which some are wrong, against the plain reading.
func TestAnySources(t *testing.T) {
	met := map[api.Errno]int{}
	for wrong, times := range map[int]int{0: 300, 1: 2000, 10: 1000} {
		m := maker(int64(wrong), wrong)
		for range times {
			s := m.program()
			r, fault := toldOf(t, s)
			want, wantFault := plainly(parsed(t, s))
			if fault != wantFault || !alike(r, want) {
				t.Errorf("%q: %s, %v, not %s, %v", s, brief(r), fault, brief(want), wantFault)
			}
			if wrong == 0 && fault.Err != api.OK {
				t.Errorf("%q: %v", s, fault)
			}
			met[fault.Err]++
		}
	}
	for _, err := range []api.Errno{api.OK, api.ErrTwice, api.ErrMany, api.ErrArg, api.ErrName, api.ErrArity, api.ErrUnbound, api.ErrWhich} {
		if met[err] < 20 {
			t.Errorf("%v was met %d times", err, met[err])
		}
	}
}

// P8.1: any trees, of which something is turned: ErrShape, unless they are right, else what the plain reading says.
func TestTurnedTrees(t *testing.T) {
	m := maker(11, 0)
	met := map[api.Errno]int{}
	for range 2500 {
		n := parsed(t, m.program())
		all := parts(&n)
		one, other := all[m.Intn(len(all))], deep(*all[m.Intn(len(all))])
		switch m.Intn(7) {
		case 0:
			one.Kind = other.Kind
		case 1:
			one.Text = other.Text
		case 2:
			one.Num += []int{1, -1, 1000, -1000}[m.Intn(4)]
		case 3:
			one.At = -m.Intn(2)
		case 4:
			one.Kids = other.Kids
		case 5:
			one.Kids = append(slices.Clone(one.Kids), other)
		case 6:
			*one = other
		}
		r, fault := told(t, n)
		want, wantFault := api.Rules{}, api.Fault{Err: api.ErrShape}
		if node.Right(n) {
			want, wantFault = plainly(n)
		}
		if fault != wantFault || !alike(r, want) {
			t.Errorf("%s: %s, %v, not %s, %v", brief(n), brief(r), fault, brief(want), wantFault)
		}
		met[fault.Err]++
	}
	if met[api.OK] < 250 || met[api.ErrShape] < 500 || len(met) < 7 {
		t.Errorf("met were %v", met)
	}
}

// P8.4: what stands between a source's tokens makes no difference but to places.
func TestBlanks(t *testing.T) {
	m := maker(12, 4)
	for range 300 {
		s := m.program()
		r, fault := toldOf(t, s)
		wide := strings.NewReplacer(" ", " # not\n ", ";", " ;\t", "(", "( ").Replace(s)
		other, otherFault := check.Source("\n\n" + wide)
		if !alike(r, other) || fault.Err != otherFault.Err || fault.Err != api.OK && otherFault.At <= fault.At {
			t.Errorf("%q: %s, %v; with blanks %s, %v", s, brief(r), fault, brief(other), otherFault)
		}
	}
}

var namePattern = regexp.MustCompile(`\A[a-z][a-z0-9_]{0,23}\z`)

// plainRight says of rules what the chapter says: each part is held against one that has just what its kind has.
func plainRight(r api.Rules) bool {
	p := &holding{types: r.Types, right: len(r.Types) <= 32 && len(r.Rules) <= 64, met: map[string]int{}}
	for _, t := range r.Types {
		p.named("type ", t.Name)
		p.must(t.Fields >= 0 && t.Fields <= 6)
	}
	for _, rule := range r.Rules {
		p.named("rule ", rule.Name)
		p.must(rule.Salience >= -1000 && rule.Salience <= 1000 && len(rule.Conds) <= 8 && len(rule.Acts) <= 8)
		p.bound, p.facts = 0, 0
		for _, c := range rule.Conds {
			p.cond(c)
		}
		for _, a := range rule.Acts {
			p.act(a)
		}
		p.must(rule.Vars == p.bound && p.bound <= 16)
	}
	return p.right
}

// holding is whether rules are right, as far as they were read: it goes on where they are not.
type holding struct {
	types        []api.Type
	right        bool
	met          map[string]int
	bound, facts int
}

func (p *holding) must(is bool) { p.right = p.right && is }

func (p *holding) named(sort, text string) {
	p.must(namePattern.MatchString(text))
	p.met[sort+text]++
	p.must(p.met[sort+text] == 1)
}

func (p *holding) value(v api.Value) {
	p.must(v == api.Value{Kind: api.Int, Num: v.Num} || v == api.Value{Kind: api.Name, Text: v.Text} && namePattern.MatchString(v.Text))
}

func (p *holding) has(v int) { p.must(v >= 0 && v < p.bound) }

func (p *holding) typed(place, many int) {
	if place < 0 || place >= len(p.types) {
		p.must(false)
		return
	}
	p.must(p.types[place].Fields == many)
}

func (p *holding) cond(c api.Cond) {
	want := api.Cond{Kind: c.Kind}
	switch c.Kind {
	case api.CondFact, api.CondNot:
		want.Type, want.Args = c.Type, c.Args
		p.typed(c.Type, len(c.Args))
		for _, a := range c.Args {
			p.arg(a, c.Kind)
		}
		if c.Kind == api.CondFact {
			p.facts++
		}
	case api.CondTest:
		want.Test = c.Test
		p.expr(c.Test)
	default:
		p.must(false)
	}
	p.must(alike(c, want))
}

func (p *holding) arg(a api.Arg, of api.CondKind) {
	want := api.Arg{Kind: a.Kind}
	switch a.Kind {
	case api.ArgAny:
	case api.ArgBind:
		p.must(of == api.CondFact)
		want.Var = p.bound
		p.bound++
	case api.ArgVar:
		want.Var = a.Var
		p.has(a.Var)
	case api.ArgConst:
		want.Value = a.Value
		p.value(a.Value)
	default:
		p.must(false)
	}
	p.must(a == want)
}

func (p *holding) act(a api.Act) {
	want := api.Act{Kind: a.Kind}
	switch a.Kind {
	case api.ActAssert:
		want.Type, want.Exprs = a.Type, a.Exprs
		p.typed(a.Type, len(a.Exprs))
	case api.ActRetract:
		want.Which = a.Which
		p.must(a.Which >= 0 && a.Which < p.facts)
	case api.ActSay:
		want.Exprs = a.Exprs
		p.must(len(a.Exprs) > 0)
	case api.ActHalt:
	default:
		p.must(false)
	}
	p.must(alike(a, want))
	for _, e := range a.Exprs {
		p.expr(e)
	}
}

func (p *holding) expr(e api.Expr) {
	want := api.Expr{Kind: e.Kind}
	switch e.Kind {
	case api.ExprConst:
		want.Value = e.Value
		p.value(e.Value)
	case api.ExprVar:
		want.Var = e.Var
		p.has(e.Var)
	case api.ExprOp:
		want.Op, want.Kids = e.Op, e.Kids
		p.must(strings.Contains(" 1/2 2/2 3/2 4/1 5/2 6/2 7/2 8/2 9/2 10/2 11/1 ", fmt.Sprintf(" %d/%d ", e.Op, len(e.Kids))))
		for _, k := range e.Kids {
			p.expr(k)
		}
	default:
		p.must(false)
	}
	p.must(len(e.Kids) == len(want.Kids))
	e.Kids, want.Kids = nil, nil
	p.must(reflect.DeepEqual(e, want))
}

// places are all of v that can be set.
func places(v reflect.Value) []reflect.Value {
	var l []reflect.Value
	switch v.Kind() {
	case reflect.Struct:
		for i := range v.NumField() {
			l = append(l, places(v.Field(i))...)
		}
		return l
	case reflect.Slice:
		for i := range v.Len() {
			l = append(l, places(v.Index(i))...)
		}
	}
	return append(l, v)
}

// turns are what may be made of one place.
func turns(v reflect.Value) []func(reflect.Value) {
	var l []func(reflect.Value)
	switch v.Kind() {
	case reflect.Int, reflect.Int64:
		for _, n := range []int64{0, 1, -1, 2, 3, 6, 7, 16, 17, 1000, 1001, -1000, -1001, most, -most - 1, v.Int() + 1, v.Int() - 1} {
			l = append(l, func(v reflect.Value) { v.SetInt(n) })
		}
	case reflect.Uint8:
		for n := range uint64(16) {
			l = append(l, func(v reflect.Value) { v.SetUint(n) })
		}
		l = append(l, func(v reflect.Value) { v.SetUint(255) })
	case reflect.String:
		for _, text := range []string{"", "a", "q", "up", "idle", "rule", "A", "1", "_a", "a_", "a b", "a\n", strings.Repeat("a", 24), strings.Repeat("a", 25)} {
			l = append(l, func(v reflect.Value) { v.SetString(text) })
		}
	case reflect.Slice:
		l = append(l,
			func(v reflect.Value) { v.SetZero() },
			func(v reflect.Value) { v.Set(reflect.Append(v, reflect.Zero(v.Type().Elem()))) },
			func(v reflect.Value) { reverse(v) })
		if v.Len() > 0 {
			l = append(l,
				func(v reflect.Value) { v.SetLen(v.Len() - 1) },
				func(v reflect.Value) { v.Set(v.Slice(1, v.Len())) },
				func(v reflect.Value) { v.Set(reflect.Append(v, deepValue(v.Index(0)))) },
				func(v reflect.Value) { v.Set(reflect.Append(v, deepValue(v.Index(v.Len()-1)))) })
		}
	}
	return l
}

func reverse(v reflect.Value) {
	swap := reflect.Swapper(v.Interface())
	for i := range v.Len() / 2 {
		swap(i, v.Len()-1-i)
	}
}

// P8.3: rules of each part, of which each field is turned, alone, against the plain reading.
func TestTurnedRules(t *testing.T) {
	base := mustBeRight(t, everything)
	if !plainRight(base) {
		t.Fatal("not right")
	}
	met := map[bool]int{}
	for i, place := range places(reflect.ValueOf(&base).Elem()) {
		for k, turn := range turns(place) {
			turned := deep(base)
			turn(places(reflect.ValueOf(&turned).Elem())[i])
			want := plainRight(turned)
			if check.Right(turned) != want {
				t.Errorf("place %d, turn %d: not %v: %s", i, k, want, brief(turned))
			}
			met[want]++
		}
	}
	if met[true] < 200 || met[false] < 1500 {
		t.Errorf("met were %v", met)
	}
}

// P8.3: any rules, of which several fields are turned.
func TestAnyRules(t *testing.T) {
	m := maker(13, 0)
	met := map[bool]int{}
	for range 1500 {
		r := mustBeRight(t, m.program())
		if !plainRight(r) {
			t.Errorf("%s: not right", brief(r))
		}
		for range 1 + m.Intn(3) {
			all := places(reflect.ValueOf(&r).Elem())
			place := all[m.Intn(len(all))]
			l := turns(place)
			l[m.Intn(len(l))](place)
		}
		want := plainRight(r)
		mustTell(t, r, want)
		met[want]++
	}
	if met[true] < 100 || met[false] < 500 {
		t.Errorf("met were %v", met)
	}
}
