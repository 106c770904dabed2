package frame_test

import (
	"bytes"
	"encoding/hex"
	"hash/crc32"
	"math"
	"slices"
	"strings"
	"testing"

	"ropewalk/api"
	"ropewalk/frame"
)

// octets are bytes that are written as hexadecimal digits, with blanks between.
func octets(s string) []byte {
	b, err := hex.DecodeString(strings.Join(strings.Fields(s), ""))
	if err != nil {
		panic(err)
	}
	return b
}

// known are frames and their bytes, written by hand.
func known() []struct {
	f     api.Frame
	bytes string
} {
	return []struct {
		f     api.Frame
		bytes string
	}{
		{api.Frame{}, "00000000 00 D202EF8D"},
		{api.Frame{Data: []byte{}}, "00000000 00 D202EF8D"},
		{api.Frame{Kind: 1}, "00000000 01 A505DF1B"},
		{api.Frame{Kind: 128}, "00000000 80 3FBA6CAD"},
		{api.Frame{Kind: 255}, "00000000 FF FF000000"},
		{api.Frame{Kind: 0, Data: []byte{0}}, "00000001 00 41D912FF 00"},
		{api.Frame{Kind: 1, Data: []byte{0}}, "00000001 01 58C223BE 00"},
		{api.Frame{Kind: 5, Data: []byte("z")}, "00000001 05 8C7E7E98 7A"},
		{api.Frame{Kind: 7, Data: []byte("ab")}, "00000002 07 25549505 6162"},
		{api.Frame{Kind: 3, Data: []byte{0, 1, 2}}, "00000003 03 C4E4209F 000102"},
		{api.Frame{Kind: 2, Data: []byte{255, 255, 255, 255}}, "00000004 02 6259849E FFFFFFFF"},
		{api.Frame{Kind: '1', Data: []byte("23456789")}, "00000008 31 CBF43926 3233343536373839"},
	}
}

// filled is a frame of so many Data, which differ from place to place.
func filled(kind, size int) api.Frame {
	data := make([]byte, size)
	for i := range data {
		data[i] = byte(i*7 + i>>8 + kind)
	}
	return api.Frame{Kind: kind, Data: data}
}

// laid is what the chapter says of a frame's bytes, with the sum of the library.
func laid(f api.Frame) []byte {
	size, sum := len(f.Data), crc32.ChecksumIEEE(append([]byte{byte(f.Kind)}, f.Data...))
	head := []byte{byte(size >> 24), byte(size >> 16), byte(size >> 8), byte(size), byte(f.Kind), byte(sum >> 24), byte(sum >> 16), byte(sum >> 8), byte(sum)}
	return append(head, f.Data...)
}

// P3.1: sums that are known.
func TestSum(t *testing.T) {
	for _, c := range []struct {
		bytes string
		want  uint32
	}{
		{"", 0}, {"123456789", 0xCBF43926}, {"a", 0xE8B7BE43}, {"abc", 0x352441C2}, {"message digest", 0x20159D7F},
		{"abcdefghijklmnopqrstuvwxyz", 0x4C2750BD}, {"The quick brown fox jumps over the lazy dog", 0x414FA339},
		{"\x00", 0xD202EF8D}, {"\xff", 0xFF000000}, {"\x01", 0xA505DF1B}, {"\x80", 0x3FBA6CAD}, {"\x00\x00", 0x41D912FF},
		{"\xff\xff\xff\xff", 0xFFFFFFFF}, {strings.Repeat("\x00", 4), 0x2144DF1C}, {strings.Repeat("\x00", 32), 0x190A55AD}, {strings.Repeat("\xff", 32), 0xFF6CAB0B},
	} {
		if got := frame.Sum([]byte(c.bytes)); got != c.want {
			t.Errorf("%q: %08X", c.bytes, got)
		}
	}
	if got := frame.Sum(nil); got != 0 {
		t.Errorf("nothing: %08X", got)
	}
}

// P3.1: the sum of each byte, of rows of all lengths, and of as many bytes as a frame's.
func TestSumAny(t *testing.T) {
	for i := range 256 {
		b := []byte{byte(i)}
		if got, want := frame.Sum(b), crc32.ChecksumIEEE(b); got != want {
			t.Errorf("the byte %d: %08X, not %08X", i, got, want)
		}
	}
	long := filled(9, api.MaxFrame+1).Data
	for size := range 600 {
		if got, want := frame.Sum(long[:size]), crc32.ChecksumIEEE(long[:size]); got != want {
			t.Errorf("%d bytes: %08X, not %08X", size, got, want)
		}
	}
	if got, want := frame.Sum(long), crc32.ChecksumIEEE(long); got != want {
		t.Errorf("%d bytes: %08X, not %08X", len(long), got, want)
	}
}

// P3.1: the bytes of each frame alone, and of all of them.
func TestPut(t *testing.T) {
	var frames []api.Frame
	var all []byte
	for _, k := range known() {
		want := octets(k.bytes)
		frames, all = append(frames, k.f), append(all, want...)
		if got, err := frame.Put(k.f); !bytes.Equal(got, want) || err != api.OK {
			t.Errorf("%v: % X, %v", k.f, got, err)
		}
		if got, err := frame.Put(frames...); !bytes.Equal(got, all) || err != api.OK {
			t.Errorf("%v: % X, %v", frames, got, err)
		}
	}
	slices.Reverse(frames)
	first, err := frame.Put(frames[0], frames[0])
	if want := octets(strings.Repeat("00000008 31 CBF43926 3233343536373839", 2)); !bytes.Equal(first, want) || err != api.OK {
		t.Errorf("one twice: % X, %v", first, err)
	}
}

// P3.1: no frames have no bytes.
func TestPutNothing(t *testing.T) {
	for _, frames := range [][]api.Frame{nil, {}} {
		if got, err := frame.Put(frames...); len(got) != 0 || err != api.OK {
			t.Errorf("% X, %v", got, err)
		}
	}
}

// P3.1: each Kind that may be, and how many Data are up to the most.
func TestPutAny(t *testing.T) {
	for kind := range 256 {
		f := api.Frame{Kind: kind, Data: []byte{byte(kind), 1}}
		if got, err := frame.Put(f); !bytes.Equal(got, laid(f)) || err != api.OK {
			t.Errorf("%v: % X, %v", f, got, err)
		}
	}
	for _, size := range []int{1, 255, 256, 257, 65535, 65536, 65537, api.MaxFrame - 1, api.MaxFrame} {
		f := filled(3, size)
		if got, err := frame.Put(f); !bytes.Equal(got, laid(f)) || err != api.OK {
			t.Errorf("%d Data: %d bytes, %v", size, len(got), err)
		}
		if got, err := frame.Put(f, api.Frame{}, f); !bytes.Equal(got, slices.Concat(laid(f), laid(api.Frame{}), laid(f))) || err != api.OK {
			t.Errorf("%d Data twice: %d bytes, %v", size, len(got), err)
		}
	}
}

// P3.1: a full list.
func TestPutMany(t *testing.T) {
	var frames []api.Frame
	var want []byte
	for i := range 5000 {
		f := filled(i%256, i%40)
		frames, want = append(frames, f), append(want, laid(f)...)
	}
	if got, err := frame.Put(frames...); !bytes.Equal(got, want) || err != api.OK {
		t.Errorf("%d bytes, not %d; %v", len(got), len(want), err)
	}
}

// P3.1: the first frame that is none says which error it is; of its own two faults it is the Kind's.
func TestPutRefused(t *testing.T) {
	long := make([]byte, api.MaxFrame+1)
	good, full := api.Frame{Kind: 7, Data: []byte("ab")}, filled(1, api.MaxFrame)
	tooLong, wrong, both := api.Frame{Kind: 255, Data: long}, api.Frame{Kind: 256}, api.Frame{Kind: -1, Data: long}
	for i, c := range []struct {
		want   api.Errno
		frames []api.Frame
	}{
		{api.ErrArg, []api.Frame{wrong}}, {api.ErrLong, []api.Frame{tooLong}}, {api.ErrArg, []api.Frame{both}},
		{api.ErrArg, []api.Frame{wrong, tooLong}}, {api.ErrLong, []api.Frame{tooLong, wrong}},
		{api.ErrArg, []api.Frame{both, tooLong}}, {api.ErrLong, []api.Frame{tooLong, both}},
		{api.ErrArg, []api.Frame{good, wrong, good}}, {api.ErrLong, []api.Frame{good, tooLong, good}},
		{api.ErrArg, []api.Frame{good, full, wrong, tooLong}}, {api.ErrLong, []api.Frame{full, good, tooLong, wrong}},
		{api.ErrArg, []api.Frame{good, good, both}}, {api.ErrLong, []api.Frame{{}, {}, {}, {Data: long}}},
	} {
		if got, err := frame.Put(c.frames...); err != c.want || got != nil {
			t.Errorf("%d: %d bytes, %v", i, len(got), err)
		}
	}
	for _, kind := range []int{-1, 256, -255, -256, 257, 511, 512, 1 << 16, 1 << 32, 1<<32 + 7, -1 << 32, math.MaxInt, math.MinInt} {
		if got, err := frame.Put(api.Frame{Kind: kind, Data: []byte("a")}); err != api.ErrArg || got != nil {
			t.Errorf("the Kind %d: % X, %v", kind, got, err)
		}
		if got, err := frame.Put(good, api.Frame{Kind: kind, Data: long}); err != api.ErrArg || got != nil {
			t.Errorf("the Kind %d, too long: %d bytes, %v", kind, len(got), err)
		}
	}
	for _, size := range []int{api.MaxFrame + 1, api.MaxFrame + 2, 1 << 21, 1 << 24} {
		if got, err := frame.Put(good, filled(0, size), good); err != api.ErrLong || got != nil {
			t.Errorf("%d Data: %d bytes, %v", size, len(got), err)
		}
	}
}

// P3.1 with R3 and R4: frames stay as they were, also behind their ends; what is told is no part of them, and the same each time.
func TestPutKeepsNothing(t *testing.T) {
	row := []byte("abcdef")
	frames := []api.Frame{{Kind: 1, Data: row[:2]}, {Kind: 2, Data: row[2:3]}, {Kind: 3, Data: row[:0]}, {Kind: 4}}
	list := slices.Clone(frames)
	got, err := frame.Put(frames...)
	again, _ := frame.Put(frames...)
	want := slices.Concat(laid(frames[0]), laid(frames[1]), laid(frames[2]), laid(frames[3]))
	if err != api.OK || !bytes.Equal(got, want) || string(row) != "abcdef" || !slices.EqualFunc(frames, list, sameFrame) {
		t.Fatalf("% X, %v; the frames are %v", got, err, frames)
	}
	copy(row, "xyzxyz")
	if !bytes.Equal(got, want) {
		t.Errorf("Data that were changed changed what was told: % X", got)
	}
	copy(row, "abcdef")
	for i := range got {
		got[i] ^= 255
	}
	_ = append(got[:0], bytes.Repeat([]byte{9}, cap(got))...)
	if string(row) != "abcdef" || !bytes.Equal(again, want) {
		t.Errorf("what was told changed Data, %q, or another answer, % X", row, again)
	}
	frame.Put(frames[0], api.Frame{Kind: -1})
	if frame.Sum(row); string(row) != "abcdef" {
		t.Errorf("Data are %q", row)
	}
}

func sameFrame(x, y api.Frame) bool { return x.Kind == y.Kind && bytes.Equal(x.Data, y.Data) }
