package wire

import (
	"bytes"

	"ropewalk/api"
)

// maxCount is the greatest count that is read.
const maxCount = 1 << 16

// Reader reads what was written. One that NewReader did not answer has no place.
type Reader struct{ *place }

// NewReader reads bytes of its own: what becomes of b afterwards changes nothing.
func NewReader(b []byte) *Reader {
	return &Reader{&place{left: bytes.Clone(b)}}
}

func (r *Reader) Number() int64 { return whole(r, (*Reader).number) }

func (r *Reader) Text() string { return whole(r, (*Reader).text) }

func (r *Reader) Value() api.Value { return whole(r, (*Reader).value) }

func (r *Reader) Values() []api.Value { return whole(r, (*Reader).values) }

func (r *Reader) Fact() api.Fact { return whole(r, (*Reader).fact) }

func (r *Reader) Command() api.Command { return whole(r, (*Reader).command) }

func (r *Reader) Reply() api.Reply { return whole(r, (*Reader).reply) }

func (r *Reader) Entry() api.Entry { return whole(r, (*Reader).entry) }

// Done tells whether all bytes were read, and said what they were read as.
func (r *Reader) Done() bool { return r.made() && !r.bad && len(r.left) == 0 }

// Bad tells whether bytes did not say what they were read as.
func (r *Reader) Bad() bool { return r.made() && r.bad }

func (r *Reader) made() bool { return r != nil && r.place != nil }

// whole answers what form reads, or nothing of it, if a part of it can't be read.
func whole[T any](r *Reader, form func(*Reader) T) T {
	var none T
	if !r.made() {
		return none
	}
	read := form(r)
	if r.bad {
		return none
	}
	return read
}

// Below, a literal's calls are made from left to right: the fields stand in the order of the form.

func (r *Reader) number() int64 { return int64(r.word(numberSize)) }

func (r *Reader) integer() int { return int(r.number()) }

func (r *Reader) octet() byte { return byte(r.word(1)) }

func (r *Reader) count() int {
	n := r.word(countSize)
	if n > maxCount {
		r.spoil()
		return 0
	}
	return int(n)
}

func (r *Reader) text() string { return string(r.take(r.count())) }

func (r *Reader) value() api.Value {
	switch kind := api.ValueKind(r.octet()); kind {
	case api.Int:
		return api.Value{Kind: kind, Num: r.number()}
	case api.Name:
		return api.Value{Kind: kind, Text: r.text()}
	}
	r.spoil()
	return api.Value{}
}

func (r *Reader) values() []api.Value { return takeRow(r, r.value) }

func (r *Reader) fact() api.Fact {
	return api.Fact{Id: r.integer(), Type: r.integer(), Args: r.values()}
}

func (r *Reader) command() api.Command {
	return api.Command{Kind: api.CommandKind(r.octet()), Text: r.text(), Num: r.integer(), Args: r.values()}
}

func (r *Reader) reply() api.Reply {
	return api.Reply{Err: api.Errno(r.integer()), Num: r.integer(), Facts: takeRow(r, r.fact), Said: r.values()}
}

func (r *Reader) entry() api.Entry {
	return api.Entry{
		Term:    r.integer(),
		Kind:    api.EntryKind(r.octet()),
		Session: r.integer(),
		Seq:     r.integer(),
		Command: r.command(),
		Voters:  takeRow(r, r.integer),
	}
}

// takeRow makes no room ahead for what a count promises: the bytes may not hold it.
func takeRow[T any](r *Reader, one func() T) []T {
	var row []T
	for range r.count() {
		row = append(row, one())
		if r.bad {
			return nil
		}
	}
	return row
}

// place is where a reader is: what is left of its bytes. Once it is bad, nothing is left, so that whatever is read then is torn.
type place struct {
	left []byte
	bad  bool
}

func (p *place) take(n int) []byte {
	if n > len(p.left) {
		p.spoil()
		return nil
	}
	taken := p.left[:n]
	p.left = p.left[n:]
	return taken
}

// word reads a number of size bytes.
func (p *place) word(size int) uint64 {
	var n uint64
	for _, b := range p.take(size) {
		n = n<<8 | uint64(b)
	}
	return n
}

func (p *place) spoil() { p.left, p.bad = nil, true }
