package naive

import (
	"slices"

	"ropewalk/api"
	"ropewalk/expr"
	"ropewalk/pattern"
)

// search is a look for matches of one rule, behind the conditions that hold so far. It embeds the variables as they are there.
type search struct {
	pattern.Env
	ids   []int
	may   [][]api.Fact // of each fact that is still asked for, those that it may be
	facts []api.Fact   // all that there are
	free  *room
	tell  func(ids []int, values []api.Value)
}

// begin is a look ahead of the first condition, for which each fact may be any one.
func begin(rule api.Rule, free *room, facts []api.Fact) search {
	may := slices.Repeat([][]api.Fact{facts}, asked(rule))
	return search{Env: pattern.New(rule.Vars), may: may, facts: facts, free: free}
}

// asked is how many facts a match of rule has.
func asked(rule api.Rule) int {
	many := 0
	for _, c := range rule.Conds {
		if c.Kind == api.CondFact {
			many++
		}
	}
	return many
}

// only is the fact of that Id, or none.
func only(id int, facts []api.Fact) []api.Fact {
	for at, f := range facts {
		if f.Id == id {
			return facts[at : at+1]
		}
	}
	return nil
}

// through tells each match of what holds so far and conds.
func (s search) through(conds []api.Cond) {
	if len(conds) == 0 {
		s.tell(s.ids, s.Values)
		return
	}
	c, left := conds[0], conds[1:]
	switch c.Kind {
	case api.CondFact:
		s.each(c, left)
	case api.CondNot:
		if !pattern.Some(c, s.Env, s.facts...) {
			s.on(left)
		}
	case api.CondTest:
		if s.holds(c.Test) {
			s.on(left)
		}
	}
}

// each goes on with each fact that c may ask for.
func (s search) each(c api.Cond, left []api.Cond) {
	for _, f := range s.may[0] {
		env, matches := pattern.Match(c, f, s.Env)
		if !matches {
			continue
		}
		next := s
		next.Env, next.may = env, s.may[1:]
		// The next fact's Ids may not stand where this one's do.
		next.ids = append(slices.Clip(s.ids), f.Id)
		next.on(left)
	}
}

// on goes on behind one condition more that holds.
func (s search) on(left []api.Cond) {
	s.free.take()
	s.through(left)
}

func (s search) holds(test api.Expr) bool {
	v, err := expr.Eval(test, s.Values)
	return err == api.OK && v.Kind == api.Int && v.Num != 0
}
