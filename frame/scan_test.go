package frame_test

import (
	"bytes"
	"slices"
	"strings"
	"testing"

	"ropewalk/api"
	"ropewalk/frame"
)

// mustScan scans b, which must stay as it is.
func mustScan(t *testing.T, what string, b []byte, want []api.Frame, used int, spoilt bool) {
	t.Helper()
	was := slices.Clone(b)
	for range 2 {
		frames, n, bad := frame.Scan(b)
		if !slices.EqualFunc(frames, want, sameFrame) || n != used || bad != spoilt {
			t.Errorf("%s: %d frames, %d used, spoilt %v; not %d, %d, %v", what, len(frames), n, bad, len(want), used, spoilt)
		}
	}
	if !bytes.Equal(b, was) {
		t.Errorf("%s: the bytes were changed", what)
	}
}

// P3.2: each frame alone, and behind others.
func TestScan(t *testing.T) {
	var frames []api.Frame
	var all []byte
	for _, k := range known() {
		b := octets(k.bytes)
		mustScan(t, k.bytes, b, []api.Frame{k.f}, len(b), false)
		mustScan(t, "twice "+k.bytes, append(b, b...), []api.Frame{k.f, k.f}, 2*len(b), false)
		frames, all = append(frames, k.f), append(all, octets(k.bytes)...)
		mustScan(t, "up to "+k.bytes, all, frames, len(all), false)
	}
}

// P3.2: nothing has no frames.
func TestScanNothing(t *testing.T) {
	for _, b := range [][]byte{nil, {}} {
		if frames, used, spoilt := frame.Scan(b); frames != nil || used != 0 || spoilt {
			t.Errorf("%v, %d, %v", frames, used, spoilt)
		}
	}
}

// P3.2: what is left is the beginning of a frame: it ends within the length, the Kind, the sum, the Data.
func TestScanTorn(t *testing.T) {
	const ab = "00000002 07 25549505 6162"
	head := []api.Frame{{Kind: 7, Data: []byte("ab")}}
	mustScan(t, "the chapter's example", octets(ab+"00 00 00"), head, 11, false)
	for _, k := range known() {
		b := octets(k.bytes)
		for n := range b {
			mustScan(t, "torn "+k.bytes, b[:n], nil, 0, false)
			mustScan(t, "torn, behind a whole one, "+k.bytes, append(octets(ab), b[:n]...), head, 11, false)
		}
	}
	// What is there of one that is torn may be anything behind its length.
	for _, rest := range []string{
		"00000000", "00000000 07", "00000000 FFFFFFFF",
		"00000001", "00000001 05 8C7E7E98", "00000001 05 00000000", "00000002 07 25549505 61", "00000002 07 00000000 FF",
		"00100000", "00100000 00", "00100000" + strings.Repeat("00", 100), "000FFFFF" + strings.Repeat("FF", 100), "00000100" + strings.Repeat("00", 260),
	} {
		mustScan(t, rest, octets(rest), nil, 0, false)
		mustScan(t, "behind a whole one "+rest, octets(ab+rest), head, 11, false)
	}
	// Fewer than four bytes say nothing, however great a length they begin.
	for _, rest := range []string{"FF", "80", "01", "FFFF", "0011", "FFFFFF", "001000", "7FFFFF"} {
		mustScan(t, rest, octets(rest), nil, 0, false)
		mustScan(t, "behind a whole one "+rest, octets(ab+rest), head, 11, false)
	}
}

// P3.2: what is left begins with more than MaxFrame, or is as long as it says, and is no frame's.
func TestScanSpoilt(t *testing.T) {
	const ab = "00000002 07 25549505 6162"
	head := []api.Frame{{Kind: 7, Data: []byte("ab")}}
	for _, rest := range []string{
		"00100001", "00100001 00", "00100001" + strings.Repeat("00", 20), "00110000", "00200000", "01000000", "7FFFFFFF", "80000000", "80000002 07 25549505 6162", "FFFFFFF7", "FFFFFFFF", "FFFFFFFF" + strings.Repeat("FF", 20), "01000002 07 25549505 6162",
		"00000000 00 00000000", "00000000 00 D202EF8C", "00000000 01 D202EF8D", "00000000 00 8DEF02D2", "00000000 FF FFFFFFFF", "00000000 00 00000000 00",
		"00000002 07 25549504 6162", "00000002 06 25549505 6162", "00000002 07 25549505 6163", "00000002 07 25549505 6261", "00000002 07 05955425 6162", "00000002 07 00000000 6162",
		"00000001 07 25549505 6162", "00000000 07 25549505 6162", "02000000 07 25549505 6162",
		"00000002 25549505 07 6162", "00000002 07 9E83486D 6162",
		strings.Repeat("00", 9), strings.Repeat("00", 100), "00000008" + strings.Repeat("20", 100),
	} {
		mustScan(t, rest, octets(rest), nil, 0, true)
		mustScan(t, "behind a whole one "+rest, octets(ab+rest), head, 11, true)
		mustScan(t, "behind three whole ones "+rest, octets(ab+ab+ab+rest), slices.Repeat(head, 3), 33, true)
		mustScan(t, "ahead of a whole one "+rest+ab, octets(rest+ab), nil, 0, true)
	}
	mustScan(t, "no frames' bytes", []byte("GET / HTTP/1.1"), nil, 0, true)
	mustScan(t, "no frames' bytes, few", []byte("ab"), nil, 0, false)
}

// P3.2: frames of the most Data, and bytes that end a byte ahead of that; also bytes that say one more.
func TestScanLong(t *testing.T) {
	full, nearly := filled(200, api.MaxFrame), filled(0, api.MaxFrame-1)
	b := slices.Concat(laid(full), laid(nearly), laid(full))
	whole := []api.Frame{full, nearly, full}
	mustScan(t, "three full ones", b, whole, len(b), false)
	mustScan(t, "the third one torn", b[:len(b)-1], whole[:2], 2*api.MaxFrame+17, false)
	mustScan(t, "the first one torn", b[:api.MaxFrame+8], nil, 0, false)
	turned := slices.Clone(b)
	turned[len(b)-1] ^= 0x80
	mustScan(t, "the last bit turned", turned, whole[:2], 2*api.MaxFrame+17, true)
	mustScan(t, "one more, all there", laid(filled(0, api.MaxFrame+1)), nil, 0, true)
	mustScan(t, "one more, torn", laid(filled(0, api.MaxFrame+1))[:9], nil, 0, true)
	mustScan(t, "one more, behind whole ones", append(b, laid(filled(0, api.MaxFrame+1))[:4]...), whole, len(b), true)
}

// P3.2: any bytes, against what the chapter says of them, read the plain way.
func TestScanAny(t *testing.T) {
	m := maker(3)
	spoilt, torn := 0, 0
	for range 20000 {
		b := put(t, m.frames()...)
		for range m.Intn(3) {
			if len(b) > 0 {
				b[m.Intn(len(b))] = byte(m.Intn(256))
			}
		}
		b = append(b, make([]byte, m.Intn(3)*m.Intn(8))...)
		b = b[:len(b)-min(len(b), m.Intn(2)*m.Intn(12))]
		frames, used, bad := plain(b)
		mustScan(t, "any bytes", b, frames, used, bad)
		if bad {
			spoilt++
		} else if used < len(b) {
			torn++
		}
	}
	if spoilt < 2000 || torn < 2000 {
		t.Errorf("only %d were spoilt, %d torn", spoilt, torn)
	}
}

// plain tries each size that a frame of b may have.
func plain(b []byte) (frames []api.Frame, used int, spoilt bool) {
	for {
		left := b[used:]
		size := len(left)
		for ; size >= 9; size-- {
			if bytes.Equal(laid(api.Frame{Kind: int(left[4]), Data: left[9:size]}), left[:size]) {
				break
			}
		}
		if size >= 9 {
			frames, used = append(frames, api.Frame{Kind: int(left[4]), Data: left[9:size]}), used+size
			continue
		}
		if len(left) < 4 {
			return frames, used, false
		}
		said := int64(left[0])<<24 + int64(left[1])<<16 + int64(left[2])<<8 + int64(left[3])
		return frames, used, said > 1<<20 || int64(len(left)) >= said+9
	}
}

// P3.2 with R3: what is told is no part of the bytes, and no two Data share any.
func TestScanSharesNothing(t *testing.T) {
	want := []api.Frame{{Kind: 7, Data: []byte("ab")}, {Kind: 1}, {Kind: 7, Data: []byte("ab")}, {Kind: 2, Data: []byte("cdefgh")}}
	b := put(t, want...)
	was := slices.Clone(b)
	frames, _, _ := frame.Scan(b)
	again, _, _ := frame.Scan(b)
	clear(b)
	if !slices.EqualFunc(frames, want, sameFrame) {
		t.Fatalf("told is %v, once the bytes were changed", frames)
	}
	copy(b, was)
	for i := range frames {
		data := frames[i].Data
		_ = append(data, bytes.Repeat([]byte{9}, cap(data)-len(data))...)
		for k := range data {
			data[k] ^= 255
		}
		if !slices.EqualFunc(frames[i+1:], want[i+1:], sameFrame) || !bytes.Equal(b, was) {
			t.Errorf("the Data of %d share memory with others", i)
		}
	}
	_ = append(frames[:0], make([]api.Frame, cap(frames))...)
	if !slices.EqualFunc(again, want, sameFrame) {
		t.Errorf("another answer is %v", again)
	}
}
