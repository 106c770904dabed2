package value_test

import (
	"math"
	"math/big"
	"slices"
	"testing"

	"ropewalk/api"
	"ropewalk/value"
)

var all = []api.Op{api.OpAdd, api.OpSub, api.OpMul, api.OpNeg, api.OpEq, api.OpNe, api.OpLt, api.OpLe, api.OpAnd, api.OpOr, api.OpNot}

func unary(op api.Op) bool { return op == api.OpNeg || op == api.OpNot }

// edges are numbers at which sums, differences and products of two of them leave the 64 bits, or nearly do.
func edges() []int64 {
	l := []int64{0, 3, -3, 7, 10, -10, 3037000499, 3037000500, -3037000499, -3037000500}
	for _, shift := range []uint{0, 1, 30, 31, 32, 33, 61, 62} {
		for near := int64(-1); near <= 1; near++ {
			l = append(l, 1<<shift+near, -1<<shift+near)
		}
	}
	return append(l, math.MaxInt64, math.MaxInt64-1, math.MinInt64, math.MinInt64+1)
}

func one(is bool) *big.Int {
	if is {
		return big.NewInt(1)
	}
	return new(big.Int)
}

// exact is what op says of numbers of any length.
func exact(op api.Op, a, b *big.Int) *big.Int {
	n := new(big.Int)
	switch op {
	case api.OpAdd:
		return n.Add(a, b)
	case api.OpSub:
		return n.Sub(a, b)
	case api.OpMul:
		return n.Mul(a, b)
	case api.OpNeg:
		return n.Neg(a)
	case api.OpEq:
		return one(a.Cmp(b) == 0)
	case api.OpNe:
		return one(a.Cmp(b) != 0)
	case api.OpLt:
		return one(a.Cmp(b) < 0)
	case api.OpLe:
		return one(a.Cmp(b) <= 0)
	case api.OpAnd:
		return one(a.Sign() != 0 && b.Sign() != 0)
	case api.OpOr:
		return one(a.Sign() != 0 || b.Sign() != 0)
	}
	return one(a.Sign() == 0)
}

// P1.2: every operator of numbers, against numbers of any length; P1.3: what is told is right.
func TestDoNumbers(t *testing.T) {
	for _, op := range all {
		for _, a := range edges() {
			for _, b := range edges() {
				args := []api.Value{num(a), num(b)}
				if unary(op) {
					args = args[:1]
				}
				want, e := api.Value{}, api.ErrOverflow
				if n := exact(op, big.NewInt(a), big.NewInt(b)); n.IsInt64() {
					want, e = num(n.Int64()), api.OK
				}
				got, err := value.Do(op, args...)
				if got != want || err != e || err == api.OK && !value.Right(got) {
					t.Fatalf("op %d of %v: %v, %v", op, args, got, err)
				}
			}
		}
	}
}

// P1.2: the edges that the chapter names, each written out.
func TestDoEdges(t *testing.T) {
	const most, least = math.MaxInt64, math.MinInt64
	for _, c := range []struct {
		op   api.Op
		a, b int64
		want int64
		e    api.Errno
	}{
		{api.OpAdd, 2, 3, 5, api.OK},
		{api.OpAdd, most, 0, most, api.OK},
		{api.OpAdd, most, 1, 0, api.ErrOverflow},
		{api.OpAdd, 1, most, 0, api.ErrOverflow},
		{api.OpAdd, least, -1, 0, api.ErrOverflow},
		{api.OpAdd, least, least, 0, api.ErrOverflow},
		{api.OpAdd, least, most, -1, api.OK},
		{api.OpSub, 2, 3, -1, api.OK},
		{api.OpSub, least, 1, 0, api.ErrOverflow},
		{api.OpSub, most, -1, 0, api.ErrOverflow},
		{api.OpSub, 0, least, 0, api.ErrOverflow},
		{api.OpSub, -1, least, most, api.OK},
		{api.OpSub, least, least, 0, api.OK},
		{api.OpMul, -4, 5, -20, api.OK},
		{api.OpMul, least, -1, 0, api.ErrOverflow},
		{api.OpMul, -1, least, 0, api.ErrOverflow},
		{api.OpMul, most, -1, -most, api.OK},
		{api.OpMul, 1 << 32, 1 << 32, 0, api.ErrOverflow},
		{api.OpMul, 1 << 32, 1 << 31, 0, api.ErrOverflow},
		{api.OpMul, 1 << 32, -1 << 31, least, api.OK},
		{api.OpMul, least, 1, least, api.OK},
		{api.OpMul, least, 0, 0, api.OK},
		{api.OpLt, least, most, 1, api.OK},
		{api.OpLt, most, least, 0, api.OK},
		{api.OpLt, 2, 2, 0, api.OK},
		{api.OpLe, 2, 2, 1, api.OK},
		{api.OpLe, most, least, 0, api.OK},
		{api.OpAnd, -1, 2, 1, api.OK},
		{api.OpAnd, 1, 2, 1, api.OK},
		{api.OpAnd, least, 0, 0, api.OK},
		{api.OpOr, 0, least, 1, api.OK},
		{api.OpOr, 0, 0, 0, api.OK},
	} {
		want := num(c.want)
		if c.e != api.OK {
			want = api.Value{}
		}
		if got, e := value.Do(c.op, num(c.a), num(c.b)); got != want || e != c.e {
			t.Errorf("op %d of %d, %d: %v, %v", c.op, c.a, c.b, got, e)
		}
	}
	for _, c := range []struct {
		op      api.Op
		a, want int64
		e       api.Errno
	}{
		{api.OpNeg, 5, -5, api.OK}, {api.OpNeg, 0, 0, api.OK}, {api.OpNeg, most, -most, api.OK}, {api.OpNeg, least + 1, most, api.OK}, {api.OpNeg, least, 0, api.ErrOverflow},
		{api.OpNot, 0, 1, api.OK}, {api.OpNot, 1, 0, api.OK}, {api.OpNot, -7, 0, api.OK}, {api.OpNot, least, 0, api.OK},
	} {
		want := num(c.want)
		if c.e != api.OK {
			want = api.Value{}
		}
		if got, e := value.Do(c.op, num(c.a)); got != want || e != c.e {
			t.Errorf("op %d of %d: %v, %v", c.op, c.a, got, e)
		}
	}
}

// P1.2: any right values are the same, or are not.
func TestDoSame(t *testing.T) {
	for i, a := range rights() {
		for j, b := range rights() {
			if got, e := value.Do(api.OpEq, a, b); got != value.Truth(i == j) || e != api.OK {
				t.Errorf("%v = %v: %v, %v", a, b, got, e)
			}
			if got, e := value.Do(api.OpNe, a, b); got != value.Truth(i != j) || e != api.OK {
				t.Errorf("%v != %v: %v, %v", a, b, got, e)
			}
		}
	}
}

func refused(t *testing.T, want api.Errno, op api.Op, args ...api.Value) {
	t.Helper()
	if got, e := value.Do(op, args...); got != (api.Value{}) || e != want {
		t.Errorf("op %d of %v: %v, %v", op, args, got, e)
	}
}

// P1.2: all operators but = and != want numbers.
func TestDoKind(t *testing.T) {
	for _, op := range all {
		if op == api.OpEq || op == api.OpNe {
			continue
		}
		if unary(op) {
			refused(t, api.ErrKind, op, name("a"))
			continue
		}
		for _, n := range []int64{0, 1, math.MaxInt64, math.MinInt64} {
			refused(t, api.ErrKind, op, num(n), name("a"))
			refused(t, api.ErrKind, op, name("a"), num(n))
		}
		refused(t, api.ErrKind, op, name("a"), name("a"))
	}
}

// P1.2: as many args as the operator has, names or not.
func TestDoCount(t *testing.T) {
	for _, op := range all {
		right := 2
		if unary(op) {
			right = 1
		}
		for count := range 6 {
			if count == right {
				continue
			}
			refused(t, api.ErrArg, op, slices.Repeat([]api.Value{num(1)}, count)...)
			refused(t, api.ErrArg, op, slices.Repeat([]api.Value{name("a")}, count)...)
		}
		refused(t, api.ErrArg, op)
		refused(t, api.ErrArg, op, []api.Value{}...)
	}
}

// P1.2: what is not right is refused ahead of what is a name.
func TestDoWrong(t *testing.T) {
	for _, op := range all {
		for _, w := range wrongs() {
			if unary(op) {
				refused(t, api.ErrArg, op, w)
				continue
			}
			for _, v := range append(rights(), w) {
				refused(t, api.ErrArg, op, w, v)
				refused(t, api.ErrArg, op, v, w)
			}
		}
	}
}

// P1.2: what is no operator is refused, whatever it is handed.
func TestDoNoOperator(t *testing.T) {
	for n := range 256 {
		op := api.Op(n)
		if slices.Contains(all, op) {
			continue
		}
		refused(t, api.ErrArg, op)
		refused(t, api.ErrArg, op, num(1))
		refused(t, api.ErrArg, op, num(1), num(2))
		refused(t, api.ErrArg, op, name("a"), num(2))
		refused(t, api.ErrArg, op, num(1), num(2), num(3))
	}
}

// P1.2 with R3 and R4: args stay as they were, an answer is no part of them, and it is the same each time.
func TestDoKeepsNothing(t *testing.T) {
	for _, op := range all {
		row := []api.Value{num(6), num(3), name("behind")}
		args := row[:2]
		if unary(op) {
			args = row[:1]
		}
		first, e := value.Do(op, args...)
		if !slices.Equal(row, []api.Value{num(6), num(3), name("behind")}) {
			t.Errorf("op %d changed its args: %v", op, row)
		}
		again, same := value.Do(op, slices.Clone(args)...)
		row[0], row[1] = num(0), num(0)
		value.Do(op, args...)
		if first != again || e != same || e != api.OK {
			t.Errorf("op %d: %v, %v; then %v, %v", op, first, e, again, same)
		}
	}
}
