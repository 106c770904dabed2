package pattern_test

import (
	"slices"
	"strings"
	"sync"
	"testing"
	"unsafe"

	"ropewalk/api"
	"ropewalk/pattern"
)

// fresh is a text in memory of its own.
func fresh(text string) string { return strings.Clone(text) }

// R3: rows that are told lie apart from those that were handed in, and from what other calls tell, whether something was bound or not.
func TestRowsLieApart(t *testing.T) {
	for _, c := range []api.Cond{asking(anything()), asking(bind(1)), asking(variable(0)), asking(one(1))} {
		e := env(number(1), api.Value{}, number(3))
		f := fact(number(1))
		first, is := pattern.Match(c, f, e)
		second, _ := pattern.Match(c, f, e)
		third, _ := pattern.Match(c, f, first)
		if !is {
			t.Fatalf("%+v", c)
		}
		want := copied(second)
		first.Has[0], first.Has[1], first.Has[2] = false, false, false
		clear(first.Values)
		_, _ = append(first.Has, true), append(first.Values, number(9))
		if !same(second, want) || !same(third, want) || !same(e, env(number(1), api.Value{}, number(3))) || f.Args[0] != number(1) {
			t.Errorf("%+v: %v, %v, %v, %v", c, second, third, e, f)
		}
		e.Has[0], e.Values[0], f.Args[0] = false, api.Value{}, number(8)
		if !same(second, want) || !same(third, want) {
			t.Errorf("%+v: %v, %v", c, second, third)
		}
	}
}

// R3: texts that are told are none of those that were handed in, nor of those that another call told.
func TestTextsLieApart(t *testing.T) {
	e := env(name(fresh("ab")), api.Value{}, name(fresh("cd")), api.Value{})
	f := fact(name(fresh("ef")), name(fresh("ab")), name(fresh("gh")))
	c := asking(bind(1), variable(0), bind(3))
	texts := slices.Concat(e.Values, f.Args)
	for range 3 {
		told, is := pattern.Match(c, f, e)
		again, _ := pattern.Match(c, f, told)
		if !is || !same(told, env(name("ab"), name("ef"), name("cd"), name("gh"))) || !same(again, told) {
			t.Fatalf("%v, %v, %v", told, is, again)
		}
		texts = slices.Concat(texts, told.Values, again.Values)
	}
	places, many := map[*byte]int{}, 0
	for _, v := range texts {
		if v.Text != "" {
			places[unsafe.StringData(v.Text)]++
			many++
		}
	}
	if len(places) != many || many != 5+6*4 {
		t.Errorf("%d texts at %d places", many, len(places))
	}
}

// R3: one value at two places of a fact is told in two memories.
func TestOneValueTwice(t *testing.T) {
	v := name(fresh("ab"))
	told, is := pattern.Match(asking(bind(0), bind(1)), fact(v, v), pattern.New(2))
	if !is || !same(told, env(v, v)) || unsafe.StringData(told.Values[0].Text) == unsafe.StringData(told.Values[1].Text) {
		t.Errorf("%v, %v", told, is)
	}
}

// R3: what stands behind the rows that are handed in stays as it is, and plays no part.
func TestBehindRows(t *testing.T) {
	has, row := []bool{true, false, true, false}, []api.Value{number(1), {}, number(3), number(4)}
	args := []api.Arg{bind(1), variable(0), bind(0), one(99)}
	given := numbers(5, 1, 6, 7)
	facts := []api.Fact{fact(given[:3]...), fact(given[:2]...), fact(given...)}
	e := pattern.Env{Has: has[:2], Values: row[:2]}
	for range 3 {
		if told, is := pattern.Match(asking(args[:2]...), fact(given[:2]...), e); !is || !same(told, env(numbers(1, 5)...)) {
			t.Errorf("%v, %v", told, is)
		}
		if told, is := pattern.Match(asking(args[:3]...), fact(given[:3]...), e); !is || !same(told, env(numbers(6, 5)...)) {
			t.Errorf("%v, %v", told, is)
		}
		if pattern.Some(asking(args[:3]...), e, facts[1:]...) || pattern.Some(asking(args[:3]...), e, facts[:0]...) || !pattern.Some(asking(args[:3]...), e, facts[:1]...) {
			t.Error("of other lengths")
		}
	}
	if !slices.Equal(has, []bool{true, false, true, false}) || !slices.Equal(row, []api.Value{number(1), {}, number(3), number(4)}) || !slices.Equal(args, []api.Arg{bind(1), variable(0), bind(0), one(99)}) || !slices.Equal(given, numbers(5, 1, 6, 7)) || len(facts[0].Args) != 3 {
		t.Errorf("%v, %v, %v, %v, %v", has, row, args, given, facts)
	}
}

// R3: a fact's values may be the env's own row.
func TestOneRow(t *testing.T) {
	row := numbers(1, 2, 3)
	e := pattern.Env{Has: []bool{true, true, true}, Values: row}
	mustTell(t, asking(bind(2), variable(1), bind(0)), fact(row...), e, env(numbers(3, 2, 1)...))
	mustTell(t, asking(bind(1), bind(2), bind(0)), fact(row...), e, env(numbers(3, 1, 2)...))
	mustNot(t, asking(bind(1), variable(1), anything()), fact(row...), e)
	if !slices.Equal(row, numbers(1, 2, 3)) {
		t.Errorf("%v", row)
	}
}

// R4: a call tells what it told ahead, whatever was asked between, also of rows of which one part was turned.
func TestNothingIsKept(t *testing.T) {
	args, row, e := []api.Arg{bind(1), variable(0)}, numbers(4, 1), env(number(1), api.Value{})
	mustTell(t, asking(args...), fact(row...), e, env(numbers(1, 4)...))
	row[1] = number(2)
	mustNot(t, asking(args...), fact(row...), e)
	e.Values[0] = number(2)
	mustTell(t, asking(args...), fact(row...), e, env(numbers(2, 4)...))
	args[0] = bind(0)
	mustNot(t, asking(args...), fact(row...), e)
	row[0] = number(2)
	mustTell(t, asking(args...), fact(row...), e, env(number(2), api.Value{}))
	args[0], row[0], row[1], e.Values[0] = bind(1), number(4), number(1), number(1)
	mustTell(t, asking(args...), fact(row...), e, env(numbers(1, 4)...))
}

// R3, R4: many that ask at once, of the same rows, are told alike.
func TestAtOnce(t *testing.T) {
	c, e := asking(variable(0), bind(0), bind(1), variable(0)), env(name("a"), api.Value{})
	facts := []api.Fact{fact(name("a"), number(1), number(2), number(2)), fact(name("a"), number(1), number(2), number(1))}
	var all sync.WaitGroup
	for range 8 {
		all.Go(func() {
			for range 200 {
				told, is := pattern.Match(c, facts[1], e)
				if !is || !same(told, env(numbers(1, 2)...)) || !pattern.Some(c, e, facts...) || pattern.Some(c, e, facts[0]) {
					t.Errorf("%v, %v", told, is)
				}
			}
		})
	}
	all.Wait()
}

// R1: conditions, facts and envs that are very great, and very many facts.
func TestGreat(t *testing.T) {
	const many = 1 << 17
	var args []api.Arg
	var row []api.Value
	for n := range many {
		args, row = append(args, bind(n)), append(row, number(int64(n)))
	}
	for n := range many {
		args, row = append(args, variable(n)), append(row, number(int64(n)))
	}
	empty := pattern.Env{Has: make([]bool, many), Values: make([]api.Value, many)}
	told, is := pattern.Match(asking(args...), fact(row...), empty)
	if !is || slices.Contains(told.Has, false) || !slices.Equal(told.Values, row[:many]) {
		t.Error(is)
	}
	row[2*many-1] = number(-1)
	if told, is := pattern.Match(asking(args...), fact(row...), empty); is || len(told.Has) > 0 || len(told.Values) > 0 {
		t.Error(is)
	}
	facts := slices.Repeat([]api.Fact{fact(numbers(1, 2)...)}, many)
	c := asking(bind(many-1), variable(many-1))
	if pattern.Some(c, empty, facts...) || !pattern.Some(c, empty, append(facts, fact(numbers(2, 2)...))...) {
		t.Error("of many facts")
	}
	long := strings.Repeat("z", 1<<24)
	mustTell(t, asking(bind(0), variable(0), constant(name(long))), fact(name(long), name(fresh(long)), name(fresh(long))), pattern.New(1), env(name(long)))
	mustNot(t, asking(bind(0), variable(0)), fact(name(long), name(long[1:]+"y")), pattern.New(1))
}
