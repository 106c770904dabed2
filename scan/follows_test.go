package scan_test

import (
	"strings"
	"testing"

	"ropewalk/api"
	"ropewalk/scan"
)

// piece is a token by its kind and text.
type piece struct {
	kind api.TokenKind
	text string
}

// written is the piece as it stands in a source.
func (p piece) written() string {
	switch p.kind {
	case api.TokVar:
		return "?" + p.text
	case api.TokAtom:
		return "'" + p.text
	}
	return p.text
}

func (m chance) token() piece {
	switch kind := api.TokenKind(1 + m.Intn(6)); kind {
	case api.TokWord:
		return piece{kind, m.one(words)}
	case api.TokName:
		for {
			if s := m.name(); !isWord(s) {
				return piece{kind, s}
			}
		}
	case api.TokNum:
		return piece{kind, m.number()}
	case api.TokSign:
		return piece{kind, m.one(signs)}
	default:
		return piece{kind, m.name()}
	}
}

func isWord(s string) bool { return strings.Contains(" "+strings.Join(words, " ")+" ", " "+s+" ") }

// laid writes pieces with what between makes ahead of each, and tells where each one stands.
func laid(pieces []piece, between func() string) (s string, want []api.Lex) {
	for _, p := range pieces {
		s += between()
		want = append(want, lex(p.kind, p.text, len(s)))
		s += p.written()
	}
	s += between()
	return s, append(want, end(len(s)))
}

// P4.3: tokens written with blanks or comments between are told as they were, each at its place.
func TestWrittenTokens(t *testing.T) {
	m := maker(6)
	for range 5000 {
		var pieces []piece
		for range m.Intn(20) {
			pieces = append(pieces, m.token())
		}
		for _, between := range []func() string{func() string { return " " }, func() string { return "\n" }, func() string { return "\t\r" }, func() string { return "#a\n" }, m.blanks} {
			s, want := laid(pieces, between)
			mustTell(t, s, want...)
		}
	}
}

// P4.3: all pairs of tokens, with one blank, or a comment, between.
func TestWrittenPairs(t *testing.T) {
	pieces := []piece{{api.TokName, "a"}, {api.TokName, "z_9"}, {api.TokVar, "x"}, {api.TokVar, "rule"}, {api.TokAtom, "b"}, {api.TokAtom, "or"}, {api.TokNum, "0"}, {api.TokNum, most}}
	for _, w := range words {
		pieces = append(pieces, piece{api.TokWord, w})
	}
	for _, s := range signs {
		pieces = append(pieces, piece{api.TokSign, s})
	}
	for _, a := range pieces {
		for _, b := range pieces {
			for _, c := range []string{" ", "\t", "\n", "\r", "#\n", "# ?\r!\n"} {
				s, want := laid([]piece{a, b}, func() string { return c })
				mustTell(t, s, want...)
			}
		}
	}
}

// P4.3: a source's own tokens, written anew with blanks between, are the same, but for places; so is a fault.
func TestSpreadSources(t *testing.T) {
	m := maker(7)
	wrong := []struct {
		s   string
		err api.Errno
	}{{"", api.OK}, {"?", api.ErrToken}, {"1a", api.ErrToken}, {oneMore, api.ErrToken}, {"!", api.ErrByte}, {"A", api.ErrByte}}
	right := 0
	for range 5000 {
		dense := ""
		for range m.Intn(12) {
			dense += m.token().written()
		}
		tokens, fault := scan.Tokens(dense)
		if fault != (api.Fault{}) {
			continue
		}
		right++
		var pieces []piece
		for _, l := range tokens[:len(tokens)-1] {
			pieces = append(pieces, piece{l.Kind, l.Text})
		}
		spread, want := laid(pieces, m.blanks)
		w := wrong[m.Intn(len(wrong))]
		if w.err == api.OK {
			mustTell(t, spread, want...)
		} else {
			mustFail(t, spread+w.s, w.err, len(spread))
			mustFail(t, spread+w.s+"\n"+spread, w.err, len(spread))
		}
	}
	if right < 1000 {
		t.Errorf("only %d sources were right", right)
	}
}
