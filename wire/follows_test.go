package wire_test

import (
	"bytes"
	"math"
	"math/rand"
	"testing"

	"ropewalk/api"
	"ropewalk/wire"
)

// A maker makes things of all forms, the same ones each time.
type maker struct{ *rand.Rand }

func (m maker) number() int64 {
	edges := []int64{0, 1, -1, 255, 256, math.MaxInt64, math.MinInt64}
	if at := m.Intn(2 * len(edges)); at < len(edges) {
		return edges[at]
	}
	return int64(m.Uint64())
}

func (m maker) text() string {
	b := make([]byte, m.Intn(20))
	m.Read(b)
	return string(b)
}

func (m maker) value() api.Value {
	if m.Intn(2) == 0 {
		return num(m.number())
	}
	return name(m.text())
}

func several[T any](m maker, one func() T) []T {
	var l []T
	for range m.Intn(4) {
		l = append(l, one())
	}
	return l
}

func (m maker) fact() api.Fact {
	return api.Fact{Id: int(m.number()), Type: int(m.number()), Args: several(m, m.value)}
}

func (m maker) command() api.Command {
	return api.Command{Kind: api.CommandKind(m.Intn(256)), Text: m.text(), Num: int(m.number()), Args: several(m, m.value)}
}

func (m maker) thing(kind string) any {
	switch kind {
	case "number":
		return m.number()
	case "text":
		return m.text()
	case "value":
		return m.value()
	case "values":
		return several(m, m.value)
	case "fact":
		return m.fact()
	case "command":
		return m.command()
	case "reply":
		return api.Reply{Err: api.Errno(m.number()), Num: int(m.number()), Facts: several(m, m.fact), Said: several(m, m.value)}
	}
	voters := several(m, func() int { return int(m.number()) })
	return api.Entry{Term: int(m.number()), Kind: api.EntryKind(m.Intn(256)), Session: int(m.number()), Seq: int(m.number()), Command: m.command(), Voters: voters}
}

// P2.3: what is written is read, one behind the other.
func TestWrittenIsRead(t *testing.T) {
	m := maker{rand.New(rand.NewSource(1))}
	for range 2000 {
		var parts [][]byte
		var row []string
		var things []any
		for range m.Intn(10) {
			kind := kinds[m.Intn(len(kinds))]
			row, things = append(row, kind), append(things, m.thing(kind))
			parts = append(parts, written(t, things[len(things)-1]))
		}
		r := wire.NewReader(wire.Join(parts...))
		for i, kind := range row {
			mustBe(t, r, false, false, "on the way")
			if got := read(r, kind); !same(got, things[i]) {
				t.Fatalf("%s %v is read as %v", kind, things[i], got)
			}
		}
		mustBe(t, r, false, true, "behind all")
	}
}

// P2.3: what is read, of any bytes, is written as the same bytes.
func TestReadIsWritten(t *testing.T) {
	m := maker{rand.New(rand.NewSource(2))}
	right := 0
	for range 20000 {
		kind := kinds[m.Intn(len(kinds))]
		b := append(written(t, m.thing(kind)), m.text()...)
		for range m.Intn(4) {
			b[m.Intn(len(b))] = byte(m.Intn(256))
		}
		r := wire.NewReader(b)
		got := read(r, kind)
		if r.Bad() {
			if !isZero(got) || r.Done() {
				t.Fatalf("%s % x: bad, and %v", kind, b, got)
			}
			continue
		}
		right++
		again := written(t, got)
		if !bytes.HasPrefix(b, again) || r.Done() != (len(again) == len(b)) {
			t.Fatalf("%s % x is read as %v, which is % x", kind, b, got, again)
		}
	}
	if right < 5000 {
		t.Errorf("only %d could be read", right)
	}
}
