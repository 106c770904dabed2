package wire_test

import (
	"bytes"
	"slices"
	"strings"
	"testing"

	"ropewalk/api"
	"ropewalk/wire"
)

// P2.1: the bytes of each form.
func TestWrite(t *testing.T) {
	for _, f := range forms() {
		if got := written(t, f.what); !bytes.Equal(got, octets(f.bytes)) {
			t.Errorf("%s %v: % x", f.kind, f.what, got)
		}
	}
}

// P2.1: a number of one bit stands with its highest byte first, at each place.
func TestWriteBits(t *testing.T) {
	for bit := range 64 {
		want := make([]byte, 8)
		want[7-bit/8] = 1 << (bit % 8)
		if got := wire.Number(int64(uint64(1) << bit)); !bytes.Equal(got, want) {
			t.Errorf("the bit %d: % x", bit, got)
		}
	}
}

// P2.1: of a value only what its Kind has; of a Kind that is neither Int nor Name its one byte.
func TestWriteKinds(t *testing.T) {
	for kind := range 256 {
		v := api.Value{Kind: api.ValueKind(kind), Num: 258, Text: "ab"}
		want := []byte{byte(kind)}
		if v.Kind == api.Int {
			want = octets("01 0000000000000102")
		}
		if v.Kind == api.Name {
			want = octets("02 00000002 6162")
		}
		if got := wire.Value(v); !bytes.Equal(got, want) {
			t.Errorf("the Kind %d: % x", kind, got)
		}
		if got := wire.Values([]api.Value{v, v}); !bytes.Equal(got, slices.Concat(octets("00000002"), want, want)) {
			t.Errorf("two of the Kind %d: % x", kind, got)
		}
		if got := wire.Command(api.Command{Kind: api.CommandKind(kind)}); !bytes.Equal(got, append([]byte{byte(kind)}, make([]byte, 16)...)) {
			t.Errorf("a command of the Kind %d: % x", kind, got)
		}
		if got := wire.Entry(api.Entry{Kind: api.EntryKind(kind)}); len(got) != 46 || got[8] != byte(kind) {
			t.Errorf("an entry of the Kind %d: % x", kind, got)
		}
	}
	if got := wire.Value(api.Value{}); !bytes.Equal(got, []byte{0}) {
		t.Errorf("the value of no Kind: % x", got)
	}
}

// P2.1: counts of 2^16 and beyond are written as any.
func TestWriteMany(t *testing.T) {
	for count, head := range map[int]string{65535: "0000FFFF", 65536: "00010000", 65537: "00010001", 70000: "00011170"} {
		many := func(each string) []byte { return append(octets(head), bytes.Repeat(octets(each), count)...) }
		values := slices.Repeat([]api.Value{num(1)}, count)
		facts := slices.Repeat([]api.Fact{{Id: 1}}, count)
		voters := slices.Repeat([]int{1}, count)
		for _, c := range []struct {
			kind      string
			got, want []byte
		}{
			{"text", wire.Text(strings.Repeat("a", count)), many("61")},
			{"name", wire.Value(name(strings.Repeat("a", count))), append([]byte{2}, many("61")...)},
			{"values", wire.Values(values), many("01" + one)},
			{"fact", wire.Fact(api.Fact{Args: values}), append(octets(zero+zero), many("01"+one)...)},
			{"command", wire.Command(api.Command{Text: strings.Repeat("a", count)}), slices.Concat([]byte{0}, many("61"), octets(zero+no))},
			{"facts", wire.Reply(api.Reply{Facts: facts}), slices.Concat(octets(zero+zero), many(one+zero+no), octets(no))},
			{"said", wire.Reply(api.Reply{Said: values}), append(octets(zero+zero+no), many("01"+one)...)},
			{"voters", wire.Entry(api.Entry{Voters: voters}), append(octets(zero+"00"+zero+zero+"00"+no+zero+no), many(one)...)},
		} {
			if !bytes.Equal(c.got, c.want) {
				t.Errorf("%s, %d: %d bytes, not %d", c.kind, count, len(c.got), len(c.want))
			}
		}
	}
}

// P2.1: all parts, one behind the other.
func TestJoin(t *testing.T) {
	a, b, c := []byte{1, 2}, []byte{3}, []byte{0, 255}
	for _, c := range []struct {
		parts [][]byte
		want  []byte
	}{
		{nil, nil}, {[][]byte{}, nil}, {[][]byte{nil}, nil}, {[][]byte{{}, nil, {}}, nil},
		{[][]byte{a}, []byte{1, 2}}, {[][]byte{a, b, c}, []byte{1, 2, 3, 0, 255}}, {[][]byte{c, b, a}, []byte{0, 255, 3, 1, 2}},
		{[][]byte{nil, b, {}, b, nil, a}, []byte{3, 3, 1, 2}},
	} {
		if got := wire.Join(c.parts...); !bytes.Equal(got, c.want) {
			t.Errorf("%v: %v", c.parts, got)
		}
	}
	if got := wire.Join(); len(got) != 0 {
		t.Errorf("no parts: %v", got)
	}
	if got := wire.Join(slices.Repeat([][]byte{a, b}, 5000)...); !bytes.Equal(got, bytes.Repeat([]byte{1, 2, 3}, 5000)) {
		t.Errorf("10000 parts: %d bytes", len(got))
	}
}

// P2.1 with R3: parts stay as they were, also behind their ends, and what is told is no part of them.
func TestJoinKeepsNothing(t *testing.T) {
	row := []byte{1, 2, 3, 4}
	for _, parts := range [][][]byte{{row[:2]}, {row[:2], row[2:3]}, {row[:2], nil}, {nil, row[:2]}} {
		list := slices.Clone(parts)
		got := wire.Join(parts...)
		want := slices.Clone(got)
		if !slices.Equal(row, []byte{1, 2, 3, 4}) || !slices.EqualFunc(parts, list, bytes.Equal) {
			t.Fatalf("the parts are %v, their bytes %v", parts, row)
		}
		row[0], row[1], row[2] = 9, 9, 9
		if !slices.Equal(got, want) {
			t.Errorf("a part that was changed changed what was told: %v", got)
		}
		row[0], row[1], row[2] = 1, 2, 3
		clear(got)
		_ = append(got[:0], 7, 7, 7, 7)
		if !slices.Equal(row, []byte{1, 2, 3, 4}) {
			t.Errorf("what was told changed a part: %v", row)
		}
	}
}

// P2.1 with R3 and R4: nothing that is handed in is changed, and each answer is new memory.
func TestWriteKeepsNothing(t *testing.T) {
	untouched := forms()
	for i, f := range forms() {
		first, again := written(t, f.what), written(t, f.what)
		clear(first)
		_ = append(first[:0], bytes.Repeat([]byte{7}, cap(first))...)
		if !bytes.Equal(again, octets(f.bytes)) || !bytes.Equal(written(t, f.what), again) {
			t.Errorf("%s %v: an answer changed another one", f.kind, f.what)
		}
		if !same(f.what, untouched[i].what) {
			t.Errorf("%s %v was changed: %v", f.kind, untouched[i].what, f.what)
		}
	}
	args := []api.Value{num(1), name("a")}
	facts := []api.Fact{{Id: 1, Args: args}}
	voters := []int{1, 2}
	reply := wire.Reply(api.Reply{Facts: facts, Said: args})
	entry := wire.Entry(api.Entry{Command: api.Command{Args: args}, Voters: voters})
	wasReply, wasEntry := slices.Clone(reply), slices.Clone(entry)
	args[0], facts[0].Id, voters[0] = name("b"), 9, 9
	if !bytes.Equal(reply, wasReply) || !bytes.Equal(entry, wasEntry) {
		t.Error("a list that was changed changed what was told")
	}
}
