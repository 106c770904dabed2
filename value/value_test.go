package value_test

import (
	"math"
	"strconv"
	"strings"
	"testing"

	"ropewalk/api"
	"ropewalk/value"
)

func num(n int64) api.Value { return api.Value{Kind: api.Int, Num: n} }

func name(s string) api.Value { return api.Value{Kind: api.Name, Text: s} }

// rights are right values, in their order.
func rights() []api.Value {
	return []api.Value{
		num(math.MinInt64), num(math.MinInt64 + 1), num(-1 << 32), num(-10), num(-9), num(-2), num(-1), num(0), num(1), num(2), num(9), num(10), num(1 << 31), num(1 << 32), num(math.MaxInt64 - 1), num(math.MaxInt64),
		name("a"), name("a0"), name("a1"), name("a10"), name("a_"), name("a_0"), name("aa"), name("ab"), name("b"), name("fact"), name("z"), name("z9_z"), name(strings.Repeat("z", api.MaxName-1)), name(strings.Repeat("z", api.MaxName)),
	}
}

func wrongs() []api.Value {
	return []api.Value{
		{}, {Num: 1}, {Text: "a"}, {Kind: 3}, {Kind: 3, Num: 1}, {Kind: 3, Text: "a"}, {Kind: 255, Num: 1},
		{Kind: api.Int, Num: 1, Text: "a"}, {Kind: api.Int, Text: "1"},
		name(""), {Kind: api.Name, Num: 1}, {Kind: api.Name, Num: 1, Text: "a"}, {Kind: api.Name, Num: math.MinInt64, Text: "a"},
		name("A"), name("aB"), name("1"), name("1a"), name("_"), name("_a"), name("a-b"), name("a b"), name("a "), name("'a"), name("a\x00"), name("ä"), name("aä"), name("a\xff"),
		name(strings.Repeat("a", api.MaxName+1)), name(strings.Repeat("a", 1<<16)),
	}
}

// P1.1: what is right, and what is not.
func TestRight(t *testing.T) {
	for _, v := range rights() {
		if !value.Right(v) {
			t.Errorf("%v is not right", v)
		}
	}
	for _, v := range wrongs() {
		if value.Right(v) {
			t.Errorf("%v is right", v)
		}
	}
}

// P1.1: each byte that a name may begin with, or go on with.
func TestRightBytes(t *testing.T) {
	const first = "abcdefghijklmnopqrstuvwxyz"
	const later = first + "0123456789_"
	for i := range 256 {
		b := string([]byte{byte(i)})
		if got, want := value.Right(name(b)), strings.Contains(first, b); got != want {
			t.Errorf("the byte %d first: %v", i, got)
		}
		for _, s := range []string{"a" + b, "a" + b + "a", strings.Repeat("a", api.MaxName-1) + b} {
			if got, want := value.Right(name(s)), strings.Contains(later, b); got != want {
				t.Errorf("%q: %v", s, got)
			}
		}
	}
}

// P1.1: numbers ahead of names, numbers by value, names as bytes stand.
func TestCompare(t *testing.T) {
	for i, a := range rights() {
		for j, b := range rights() {
			want := 0
			if i < j {
				want = -1
			}
			if i > j {
				want = 1
			}
			if got := value.Compare(a, b); got != want {
				t.Errorf("%v, %v: %d", a, b, got)
			}
		}
	}
}

// P1.1: nothing stands ahead of what is not right.
func TestCompareWrong(t *testing.T) {
	for _, w := range wrongs() {
		for _, v := range append(rights(), wrongs()...) {
			if a, b := value.Compare(w, v), value.Compare(v, w); a != 0 || b != 0 {
				t.Errorf("%v, %v: %d, %d", w, v, a, b)
			}
		}
	}
}

// P1.1: texts of numbers and names.
func TestText(t *testing.T) {
	longest := strings.Repeat("z", api.MaxName)
	for _, c := range []struct {
		v    api.Value
		want string
	}{
		{num(0), "0"}, {num(7), "7"}, {num(-5), "-5"}, {num(1000), "1000"}, {num(-100), "-100"},
		{num(math.MaxInt64), "9223372036854775807"}, {num(math.MinInt64), "-9223372036854775808"},
		{name("a"), "'a"}, {name("ab"), "'ab"}, {name("a_1"), "'a_1"}, {name("not"), "'not"}, {name(longest), "'" + longest},
	} {
		if got := value.Text(c.v); got != c.want {
			t.Errorf("%v: %q", c.v, got)
		}
	}
	for _, w := range wrongs() {
		if got := value.Text(w); got != "" {
			t.Errorf("%v: %q", w, got)
		}
	}
}

// P1.1: what is true, and what is not.
func TestTruth(t *testing.T) {
	if got := value.Truth(true); got != num(1) {
		t.Errorf("true: %v", got)
	}
	if got := value.Truth(false); got != num(0) {
		t.Errorf("false: %v", got)
	}
}

// P1.3: a text says which value it is of.
func TestTextsDiffer(t *testing.T) {
	seen := map[string]api.Value{}
	values := rights()
	for n := int64(-300); n <= 300; n++ {
		values = append(values, num(n))
	}
	for c := 'a'; c <= 'z'; c++ {
		values = append(values, name(string(c)), name(string(c)+"_"), name("x"+strconv.Itoa(int(c))))
	}
	for _, v := range values {
		s := value.Text(v)
		if w, there := seen[s]; there && w != v || s == "" {
			t.Errorf("%v and %v: %q", v, w, s)
		}
		seen[s] = v
	}
}
