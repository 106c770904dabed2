package frame_test

import (
	"math/rand"
	"slices"
	"strconv"
	"testing"

	"ropewalk/api"
	"ropewalk/frame"
)

// chance makes frames, the same ones each time.
type chance struct{ *rand.Rand }

func maker(seed int64) chance { return chance{rand.New(rand.NewSource(seed))} }

func (m chance) frames() []api.Frame {
	var l []api.Frame
	for range m.Intn(6) {
		f := api.Frame{Kind: m.Intn(256), Data: make([]byte, m.Intn(2)*m.Intn(30))}
		m.Read(f.Data)
		l = append(l, f)
	}
	return l
}

func put(t *testing.T, frames ...api.Frame) []byte {
	t.Helper()
	b, err := frame.Put(frames...)
	if err != api.OK {
		t.Fatalf("%v can't be put: %v", frames, err)
	}
	return b
}

// P3.3: what is put is scanned; of each beginning the frames that are whole.
func TestPutIsScanned(t *testing.T) {
	m := maker(1)
	for range 200 {
		frames := m.frames()
		b := put(t, frames...)
		whole, used := 0, 0
		for n := 0; n <= len(b); n++ {
			for whole < len(frames) && used+9+len(frames[whole].Data) <= n {
				used += 9 + len(frames[whole].Data)
				whole++
			}
			mustScan(t, strconv.Itoa(n)+" of "+strconv.Itoa(len(b)), b[:n], frames[:whole], used, false)
		}
		if whole != len(frames) || used != len(b) {
			t.Fatalf("%d of %d frames are whole", whole, len(frames))
		}
	}
}

// P3.3: a full list is scanned.
func TestManyAreScanned(t *testing.T) {
	var frames []api.Frame
	for i := range 5000 {
		frames = append(frames, filled(i%256, i%40))
	}
	b := put(t, frames...)
	mustScan(t, "many", b, frames, len(b), false)
	mustScan(t, "many, the last one torn", b[:len(b)-1], frames[:4999], len(b)-9-4999%40, false)
	b[len(b)-1] ^= 1
	mustScan(t, "many, the last one spoilt", b, frames[:4999], len(b)-9-4999%40, true)
}

// turn turns the bits of pattern from the bit at on, which are counted in each byte from the lowest one on.
func turn(data []byte, at int, pattern uint32) {
	for i := range 32 {
		if pattern>>i&1 == 1 {
			data[(at+i)/8] ^= 1 << ((at + i) % 8)
		}
	}
}

// P3.3: up to 32 bits of Data that were turned, at each place, are found.
func TestTurnedData(t *testing.T) {
	m := maker(2)
	frames := []api.Frame{{Kind: 7, Data: []byte("ab")}, {Kind: 3}, filled(9, 12), {Kind: 4, Data: []byte("behind")}}
	b := put(t, frames...)
	from := 11 + 9 + 9
	const bits = 12 * 8
	for at := range bits {
		patterns := []uint32{1, 3, 1<<31 | 1, 1<<32 - 1, 0xEDB88320, 0xDB710641}
		for range 50 {
			patterns = append(patterns, m.Uint32()|1)
		}
		for _, p := range patterns {
			p = p << max(0, at+32-bits) >> max(0, at+32-bits)
			if p == 0 {
				continue
			}
			turned := slices.Clone(b)
			turn(turned[from:], at, p)
			mustScan(t, "turned from the bit "+strconv.Itoa(at)+" on", turned, frames[:2], 20, true)
		}
	}
}

// P3.3: a bit of Data turned, in each one of several frames, and in a full one.
func TestTurnedBit(t *testing.T) {
	frames := []api.Frame{filled(1, 3), filled(2, 1), filled(0, 9), filled(255, 2)}
	b := put(t, frames...)
	used := 0
	for which, f := range frames {
		for at := range 8 * len(f.Data) {
			turned := slices.Clone(b)
			turn(turned[used+9:], at, 1)
			mustScan(t, "a bit turned", turned, frames[:which], used, true)
			mustScan(t, "a bit turned, and torn behind", turned[:used+9+len(f.Data)], frames[:which], used, true)
		}
		used += 9 + len(f.Data)
	}
	full := laid(filled(8, api.MaxFrame))
	for _, at := range []int{0, 1, 8*api.MaxFrame/2 + 3, 8*api.MaxFrame - 1} {
		turn(full[9:], at, 1)
		mustScan(t, "a bit of many turned", full, nil, 0, true)
		turn(full[9:], at, 1)
	}
	mustScan(t, "turned back", full, []api.Frame{filled(8, api.MaxFrame)}, len(full), false)
}

// P3.2: a bit turned ahead of Data: in the length (which then says more than MaxFrame, more than there is, or less), the Kind, the sum.
func TestTurnedHead(t *testing.T) {
	head := api.Frame{Kind: 7, Data: []byte("ab")}
	f := filled(5, 6)
	b := put(t, head, f)
	for at := range 9 * 8 {
		turned := slices.Clone(b)
		turn(turned[11:], at, 1)
		said := int(turned[11])<<24 | int(turned[12])<<16 | int(turned[13])<<8 | int(turned[14])
		torn := said > len(f.Data) && said <= api.MaxFrame
		mustScan(t, "the bit "+strconv.Itoa(at)+" of a frame turned", turned, []api.Frame{head}, 11, !torn)
	}
}
