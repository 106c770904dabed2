package pattern_test

import (
	"math/rand"
	"testing"

	"ropewalk/api"
	"ropewalk/pattern"
)

// given is what the variable n has ahead of the argument at: what the nearest ArgBind of it bound, or else what e has.
func given(args []api.Arg, row []api.Value, e pattern.Env, at, n int) (api.Value, bool) {
	for i := at - 1; i >= 0; i-- {
		if args[i].Kind == api.ArgBind && args[i].Var == n {
			return row[i], true
		}
	}
	return e.Values[n], e.Has[n]
}

// plainly is the chapter's own words, each argument held against what stands ahead of it.
func plainly(c api.Cond, f api.Fact, e pattern.Env) (pattern.Env, bool) {
	if !wellMade(e) || c.Kind != api.CondFact && c.Kind != api.CondNot || f.Type != c.Type || len(f.Args) != len(c.Args) {
		return pattern.Env{}, false
	}
	for i, a := range c.Args {
		v, fits := f.Args[i], a.Kind == api.ArgAny
		if (a.Kind == api.ArgBind || a.Kind == api.ArgVar) && a.Var >= 0 && a.Var < len(e.Has) {
			had, there := given(c.Args, f.Args, e, i, a.Var)
			fits = a.Kind == api.ArgBind || there && had.Kind == v.Kind && had.Num == v.Num && had.Text == v.Text
		}
		if a.Kind == api.ArgConst {
			fits = a.Value.Kind == v.Kind && a.Value.Num == v.Num && a.Value.Text == v.Text
		}
		if !fits {
			return pattern.Env{}, false
		}
	}
	told := copied(e)
	for n := range e.Has {
		told.Values[n], told.Has[n] = given(c.Args, f.Args, e, len(c.Args), n)
	}
	return told, true
}

func mustAgree(t *testing.T, c api.Cond, f api.Fact, e pattern.Env) bool {
	t.Helper()
	want, is := plainly(c, f, e)
	if is {
		mustTell(t, c, f, e, want)
	} else {
		mustNot(t, c, f, e)
	}
	return is
}

// P10.2: all conditions of none to two arguments of a few, against all such rows of a few values, under all envs of none to two variables.
func TestAllShortPlainly(t *testing.T) {
	few := []api.Value{number(5), name("a"), {}}
	args := []api.Arg{anything(), bind(-1), bind(0), bind(1), bind(2), variable(-1), variable(0), variable(1), variable(2), one(5), constant(api.Value{}), {}, {Kind: 5}}
	envs := []pattern.Env{{}, {Has: []bool{true}}, {Has: []bool{false, true}, Values: numbers(5, 5)}}
	for _, has := range []bool{false, true} {
		for _, v := range few {
			envs = append(envs, pattern.Env{Has: []bool{has}, Values: []api.Value{v}})
			for _, hasOther := range []bool{false, true} {
				for _, w := range few {
					envs = append(envs, pattern.Env{Has: []bool{has, hasOther}, Values: []api.Value{v, w}})
				}
			}
		}
	}
	met := map[bool]int{}
	for _, e := range envs {
		met[mustAgree(t, asking(), fact(), e)]++
		for _, a := range args {
			for _, v := range few {
				met[mustAgree(t, asking(a), fact(v), e)]++
				for _, b := range args {
					for _, w := range few {
						met[mustAgree(t, asking(a, b), fact(v, w), e)]++
					}
				}
			}
		}
	}
	if met[true] < 3000 || met[false] < 30000 {
		t.Errorf("%v", met)
	}
}

// chance makes conditions, facts and envs; wrong is how many of a hundred of their parts are.
type chance struct {
	*rand.Rand
	wrong int
}

func (c chance) isWrong() bool { return c.Intn(100) < c.wrong }

func (c chance) value() api.Value {
	if c.isWrong() {
		return values()[c.Intn(len(values()))]
	}
	return []api.Value{number(0), number(1), name("a")}[c.Intn(3)]
}

func (c chance) row(many int) []api.Value {
	var l []api.Value
	for range many {
		l = append(l, c.value())
	}
	return l
}

func (c chance) env(many int) pattern.Env {
	e := pattern.Env{}
	for range many {
		has := c.Intn(3) > 0
		v := api.Value{}
		if has || c.Intn(1000) < c.wrong {
			v = c.value()
		}
		e.Has, e.Values = append(e.Has, has), append(e.Values, v)
	}
	if many > 0 && c.Intn(500) < c.wrong {
		e.Has = e.Has[1:]
	}
	return e
}

func (c chance) arg(many int) api.Arg {
	a := api.Arg{Kind: api.ArgKind(1 + c.Intn(4)), Var: c.Intn(many + 1), Value: c.value()}
	if many > 0 && c.Intn(20) > 0 {
		a.Var = c.Intn(many)
	}
	if c.isWrong() {
		a.Kind, a.Var = api.ArgKind(c.Intn(6)), c.Intn(many+4)-2
	}
	return a
}

// cond makes a condition that row fits more often than any other would, as its ArgVars and ArgConsts ask for what stands there.
func (c chance) cond(row []api.Value, e pattern.Env) api.Cond {
	cond := asking()
	for _, v := range row {
		a := c.arg(len(e.Values))
		if c.Intn(3) > 0 {
			a.Value = v
		}
		if a.Kind == api.ArgVar && c.Intn(3) > 0 && len(e.Values) > 0 {
			for tries := 0; tries < 9 && (a.Var >= len(e.Values) || a.Var < 0 || e.Values[a.Var] != v); tries++ {
				a.Var = c.Intn(len(e.Values))
			}
		}
		cond.Args = append(cond.Args, a)
	}
	if c.isWrong() {
		cond.Args = append(cond.Args, c.arg(len(e.Values)))
	}
	return cond
}

func (c chance) fact(row []api.Value) api.Fact {
	f := fact(row...)
	if c.isWrong() {
		f.Type = c.Intn(5)
	}
	return f
}

// P10.2, P10.3: any conditions and facts under any envs, one by one and in rows, against the plain reading.
func TestAnyPlainly(t *testing.T) {
	met, found := map[bool]int{}, map[bool]int{}
	for i := range 20000 {
		c := chance{rand.New(rand.NewSource(int64(i))), i % 5}
		e := c.env(c.Intn(6))
		many := c.Intn(7)
		row := c.row(many)
		cond := c.cond(row, e)
		met[mustAgree(t, cond, c.fact(row), e)]++
		var facts []api.Fact
		want := false
		for range c.Intn(6) {
			f := c.fact(c.row(many))
			if c.Intn(10) == 0 {
				f = c.fact(row)
			}
			facts = append(facts, f)
			want = mustAgree(t, cond, f, e) || want
		}
		mustFind(t, want, cond, e, facts...)
		found[want]++
	}
	if met[true] < 5000 || met[false] < 5000 || found[true] < 2000 || found[false] < 2000 {
		t.Errorf("%v, %v", met, found)
	}
}
