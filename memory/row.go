package memory

import (
	"cmp"
	"slices"

	"ropewalk/api"
)

// row is facts, whose numbers rise, and the number that the next one gets.
type row struct {
	facts []fact
	next  int
}

type fact struct {
	id int
	saying
}

func (f fact) tell() api.Fact {
	return api.Fact{Id: f.id, Type: f.kind, Args: f.args()}
}

func (r *row) place(id int) (at int, there bool) {
	return slices.BinarySearchFunc(r.facts, id, func(f fact, id int) int { return cmp.Compare(f.id, id) })
}

// who is the Id of the fact that says s.
func (r *row) who(s saying) (id int, there bool) {
	for i := range r.facts {
		if r.facts[i].saying == s {
			return r.facts[i].id, true
		}
	}
	return 0, false
}

func (r *row) full() bool {
	return len(r.facts) >= api.MaxFacts || r.next > api.MaxId
}

// put leaves the numbers rising: the next one was never given.
func (r *row) put(s saying) (id int) {
	id = r.next
	r.facts = append(r.facts, fact{id, s.own()})
	r.next++
	return id
}

func (r *row) take(at int) {
	r.facts = slices.Delete(r.facts, at, at+1)
}

// skip makes next the next one, if that takes back none that was given, and is at most the one behind the greatest Id.
func (r *row) skip(next int) bool {
	if next < r.next || next > api.MaxId+1 {
		return false
	}
	r.next = next
	return true
}
