package wire_test

import (
	"bytes"
	"slices"
	"strings"
	"testing"

	"ropewalk/api"
	"ropewalk/wire"
)

// mustBe tells whether r is bad and done as it should be, each asked twice.
func mustBe(t *testing.T, r *wire.Reader, bad, done bool, when string) {
	t.Helper()
	for range 2 {
		if r.Bad() != bad || r.Done() != done {
			t.Errorf("%s: bad %v, done %v", when, r.Bad(), r.Done())
		}
	}
}

// mustStayBad asks a bad reader for everything, twice.
func mustStayBad(t *testing.T, r *wire.Reader, when string) {
	t.Helper()
	mustBe(t, r, true, false, when)
	for range 2 {
		for _, kind := range kinds {
			if got := read(r, kind); !isZero(got) {
				t.Errorf("%s: then the %s %s", when, kind, short(got))
			}
			mustBe(t, r, true, false, when+", then "+kind)
		}
	}
}

// mustSpoil reads a form that is none.
func mustSpoil(t *testing.T, kind string, b []byte, why string) {
	t.Helper()
	r := wire.NewReader(b)
	mustBe(t, r, false, len(b) == 0, "ahead of a "+kind)
	if got := read(r, kind); !isZero(got) {
		t.Errorf("%s, %s: %s", kind, why, short(got))
	}
	mustStayBad(t, r, kind+", "+why)
}

// P2.2: each form, alone, and with one more behind it.
func TestRead(t *testing.T) {
	for _, f := range forms() {
		b := octets(f.bytes)
		r := wire.NewReader(b)
		mustBe(t, r, false, false, "ahead of "+f.bytes)
		if got := read(r, f.kind); !same(got, f.what) {
			t.Errorf("%s %s: %v", f.kind, f.bytes, got)
		}
		mustBe(t, r, false, true, "behind "+f.bytes)
		r = wire.NewReader(slices.Concat(octets(some), b, b, octets(most)))
		head, first, second := r.Number(), read(r, f.kind), read(r, f.kind)
		mustBe(t, r, false, false, "behind two of "+f.bytes)
		if tail := r.Number(); head != 0x0102030405060708 || !same(first, f.what) || !same(second, f.what) || tail != 1<<63-1 {
			t.Errorf("%s %s between two numbers: %x, %v, %v, %x", f.kind, f.bytes, head, first, second, tail)
		}
		mustBe(t, r, false, true, "behind all")
	}
}

// P2.2: bytes that end within a form, at each place; also behind what could be read.
func TestReadTorn(t *testing.T) {
	for _, f := range forms() {
		b := octets(f.bytes)
		for n := range b {
			mustSpoil(t, f.kind, b[:n], "torn")
			r := wire.NewReader(append(octets(one), b[:n]...))
			r.Number()
			mustBe(t, r, false, n == 0, "ahead of a torn "+f.kind)
			if got := read(r, f.kind); !isZero(got) {
				t.Errorf("%s, torn at %d behind a number: %v", f.kind, n, got)
			}
			mustStayBad(t, r, "torn "+f.kind)
		}
	}
	for n := range 8 {
		mustSpoil(t, "number", make([]byte, n), "torn")
	}
}

// P2.2: a bad reader tells nothing of bytes that are left, though they say something.
func TestReadBehindBad(t *testing.T) {
	for _, c := range []struct{ kind, bytes string }{
		{"number", "00000001 61 0000"},
		{"value", "03" + one + one},
		{"value", "00" + strings.Repeat("00", 100)},
		{"values", "00000002 01" + one + "00" + strings.Repeat("00", 100)},
		{"text", "00000005 61626364"},
		{"text", "FFFFFFFF" + strings.Repeat("00", 100)},
		{"fact", one + one + "00000001 04" + strings.Repeat("00", 100)},
		{"command", "01 80000000" + strings.Repeat("00", 100)},
		{"reply", zero + zero + "00000001" + zero + zero + "00000001 FF" + strings.Repeat("00", 100)},
		{"entry", zero + "01" + zero + zero + "01" + no + zero + "00000001 00" + strings.Repeat("00", 100)},
	} {
		mustSpoil(t, c.kind, octets(c.bytes), c.bytes)
	}
}

// P2.2: a value's Kind is Int or Name; those of commands and entries may be any.
func TestReadKinds(t *testing.T) {
	for kind := range 256 {
		head, behind := []byte{byte(kind)}, make([]byte, 64)
		if kind != int(api.Int) && kind != int(api.Name) {
			mustSpoil(t, "value", head, "of a Kind alone")
			mustSpoil(t, "value", slices.Concat(head, behind), "of a Kind")
			mustSpoil(t, "values", slices.Concat(octets("00000001"), head, behind), "of a Kind")
			mustSpoil(t, "values", slices.Concat(octets("00000002 01"+one), head, behind), "of a Kind behind a number")
			mustSpoil(t, "fact", slices.Concat(octets(zero+zero+"00000001"), head, behind), "of a Kind")
			mustSpoil(t, "command", slices.Concat(octets("01"+no+zero+"00000001"), head, behind), "of a Kind")
			mustSpoil(t, "reply", slices.Concat(octets(zero+zero+no+"00000001"), head, behind), "of a Kind said")
			mustSpoil(t, "reply", slices.Concat(octets(zero+zero+"00000001"+zero+zero+"00000001"), head, behind), "of a Kind in a fact")
			mustSpoil(t, "entry", slices.Concat(octets(zero+"01"+zero+zero+"01"+no+zero+"00000001"), head, behind), "of a Kind")
		}
		r := wire.NewReader(slices.Concat(head, octets(no+zero+no)))
		if got := r.Command(); !same(got, api.Command{Kind: api.CommandKind(kind)}) || !r.Done() {
			t.Errorf("a command of the Kind %d: %v", kind, got)
		}
		r = wire.NewReader(slices.Concat(octets(zero), head, octets(zero+zero), head, octets(no+zero+no+no)))
		want := api.Entry{Kind: api.EntryKind(kind), Command: api.Command{Kind: api.CommandKind(kind)}}
		if got := r.Entry(); !same(got, want) || !r.Done() {
			t.Errorf("an entry of the Kind %d: %v", kind, got)
		}
	}
}

// A place of a count: what stands ahead of it, each of so many, and what stands behind.
type counted struct{ kind, head, each, tail string }

func countedPlaces() []counted {
	const value, noCommand = "01" + one, "00" + no + zero + no
	const entry = zero + "00" + zero + zero
	return []counted{
		{"text", "", "61", ""},
		{"value", "02", "61", ""},
		{"values", "", value, ""},
		{"values", "00000002 02", "61", "02" + no},
		{"fact", zero + zero, value, ""},
		{"command", "00", "61", zero + no},
		{"command", "00" + no + zero, value, ""},
		{"reply", zero + zero, zero + zero + no, no},
		{"reply", zero + zero + "00000001" + zero + zero, value, no},
		{"reply", zero + zero + no, value, ""},
		{"entry", entry + "00", "61", zero + no + no},
		{"entry", entry + "00" + no + zero, value, no},
		{"entry", entry + noCommand, zero, ""},
	}
}

// P2.2: a count of 2^16 is read, in each place of one; one more is not, though there are as many.
func TestReadCounts(t *testing.T) {
	for _, c := range countedPlaces() {
		for _, n := range []struct {
			count string
			many  int
			fits  bool
		}{{no, 0, true}, {"00000001", 1, true}, {"0000FFFF", 65535, true}, {"00010000", 65536, true}, {"00010001", 65537, false}, {"00020000", 131072, false}} {
			b := slices.Concat(octets(c.head), octets(n.count), bytes.Repeat(octets(c.each), n.many), octets(c.tail))
			if !n.fits {
				mustSpoil(t, c.kind, b, "count "+n.count)
				continue
			}
			r := wire.NewReader(b)
			got := read(r, c.kind)
			mustBe(t, r, false, true, c.kind+", count "+n.count)
			if !bytes.Equal(written(t, got), b) {
				t.Errorf("%s, count %s: it is read as another one", c.kind, n.count)
			}
		}
		for _, count := range []string{"7FFFFFFF", "80000000", "80000001", "FFFF0000", "FFFFFFFF", "01000000"} {
			b := slices.Concat(octets(c.head), octets(count), bytes.Repeat(octets(c.each), 70000), octets(c.tail))
			mustSpoil(t, c.kind, b, "count "+count)
			mustSpoil(t, c.kind, append(octets(c.head), octets(count)...), "count "+count+" of nothing")
		}
		mustSpoil(t, c.kind, append(octets(c.head), octets("00010000")...), "count of 2^16 of nothing")
	}
}

// P2.2: what was read of many is what was written.
func TestReadMany(t *testing.T) {
	values := make([]api.Value, 1<<16)
	facts := make([]api.Fact, 1<<16)
	voters := make([]int, 1<<16)
	for i := range 1 << 16 {
		values[i], facts[i], voters[i] = num(int64(-i)), api.Fact{Id: i, Type: -i}, i
	}
	long := strings.Repeat("ab\xff\x00", 1<<14)
	reply := api.Reply{Facts: facts, Said: values}
	entry := api.Entry{Command: api.Command{Text: long, Args: values}, Voters: voters}
	r := wire.NewReader(wire.Join(wire.Reply(reply), wire.Entry(entry), wire.Text(long), wire.Value(name(long))))
	if !same(r.Reply(), reply) || !same(r.Entry(), entry) || r.Text() != long || r.Value() != name(long) {
		t.Error("something else was read")
	}
	mustBe(t, r, false, true, "behind all")
}

// P2.2: a reader of nothing is done, and bad once it is read.
func TestReadNothing(t *testing.T) {
	for _, kind := range kinds {
		mustSpoil(t, kind, nil, "of nothing")
		mustSpoil(t, kind, []byte{}, "of nothing")
	}
	mustBe(t, wire.NewReader(nil), false, true, "nothing")
	mustSpoil(t, "number", []byte{0, 0, 0}, "of the chapter's example")
}

// P2.2 with R5: a nil Reader, and one that NewReader did not answer, tell zero values, whatever they were asked.
func TestReadNoReader(t *testing.T) {
	for _, r := range []*wire.Reader{nil, new(wire.Reader), {}} {
		mustBe(t, r, false, false, "no reader")
		for range 2 {
			for _, kind := range kinds {
				if got := read(r, kind); !isZero(got) {
					t.Errorf("no reader: the %s %v", kind, got)
				}
				mustBe(t, r, false, false, "no reader, then "+kind)
			}
		}
	}
}

// P2.2 with R3: a reader neither changes the bytes nor keeps them.
func TestReaderKeepsNothing(t *testing.T) {
	for _, f := range forms() {
		b := octets(f.bytes)
		r, other := wire.NewReader(b), wire.NewReader(b)
		got := read(other, f.kind)
		if !bytes.Equal(b, octets(f.bytes)) {
			t.Errorf("%s %s: the bytes are % x", f.kind, f.bytes, b)
		}
		for i := range b {
			b[i] ^= 0xff
		}
		if late := read(r, f.kind); !same(got, f.what) || !same(late, f.what) {
			t.Errorf("%s %s: %v; behind a change %v", f.kind, f.bytes, got, late)
		}
	}
}

// P2.2 with R3: no two lists that are told share memory.
func TestReadSharesNothing(t *testing.T) {
	args := []api.Value{num(1), num(2)}
	want := api.Reply{Facts: []api.Fact{{Args: args}, {Args: args}}, Said: args}
	r := wire.NewReader(wire.Join(wire.Reply(want), wire.Reply(want)))
	first := r.Reply()
	if len(first.Facts) != 2 || len(first.Facts[0].Args) != 2 {
		t.Fatalf("read is %v", first)
	}
	_ = append(first.Facts[0].Args, num(7), num(7), num(7))
	clear(first.Facts[0].Args)
	if !slices.Equal(first.Facts[1].Args, args) || !slices.Equal(first.Said, args) {
		t.Errorf("a list changed another one: %v", first)
	}
	_ = append(first.Said, num(7), num(7), num(7))
	clear(first.Said)
	clear(first.Facts)
	if got := r.Reply(); !same(got, want) {
		t.Errorf("what was told changed what is told next: %v", got)
	}
}

// P2.2: two readers go their own ways.
func TestReadersApart(t *testing.T) {
	b := wire.Join(wire.Number(1), wire.Number(2))
	a, c := wire.NewReader(b), wire.NewReader(b)
	a.Number()
	a.Number()
	a.Number()
	mustBe(t, a, true, false, "the one")
	mustBe(t, c, false, false, "the other one")
	if got := c.Number(); got != 1 {
		t.Errorf("the other one tells %d", got)
	}
}
