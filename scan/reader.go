package scan

import (
	"iter"
	"slices"
	"strings"

	"ropewalk/api"
)

// Sets of bytes.
const (
	letters = "abcdefghijklmnopqrstuvwxyz"
	digits  = "0123456789"
	low     = "_"
	blanks  = "\t\n\r "
	hash    = "#"
)

// tokensOf goes through source as far as it is asked to: to the TokEnd, or to a fault, of which only the place is told.
func tokensOf(source string) iter.Seq2[api.Lex, api.Errno] {
	return func(yield func(api.Lex, api.Errno) bool) {
		r := reader{left{source: source}}
		for {
			token, err := r.token()
			if !yield(token, err) || err != api.OK || token.Kind == api.TokEnd {
				return
			}
		}
	}
}

type reader struct{ left }

// token reads the next one.
func (r *reader) token() (token api.Lex, err api.Errno) {
	r.passBlanks()
	at := r.at
	switch {
	case r.ended():
		token.Kind = api.TokEnd
	case r.next(letters):
		token, err = r.word()
	case r.skip("?"):
		token, err = r.named(api.TokVar)
	case r.skip("'"):
		token, err = r.named(api.TokAtom)
	case r.next(digits):
		token, err = r.number()
	default:
		token, err = r.sign()
	}
	token.At = at
	return token, err
}

// passBlanks leaves the 10 that ends a comment to the blanks behind it.
func (r *reader) passBlanks() {
	for r.pass(blanks); r.next(hash); r.pass(blanks) {
		r.passTo('\n')
	}
}

// word reads a word, or a name.
func (r *reader) word() (api.Lex, api.Errno) {
	text := r.nameBytes()
	if slices.Contains(Words(), text) {
		return told(api.TokWord, text, true)
	}
	return told(api.TokName, text, isName(text))
}

// named reads what stands behind a sign that asks for a name.
func (r *reader) named(kind api.TokenKind) (api.Lex, api.Errno) {
	text := r.nameBytes()
	return told(kind, text, isName(text))
}

func (r *reader) number() (api.Lex, api.Errno) {
	text := r.take(digits)
	_, fits := Number(text)
	return told(api.TokNum, text, fits && !r.next(letters, low))
}

// sign asks for longer signs ahead of those that they begin with.
func (r *reader) sign() (api.Lex, api.Errno) {
	text := r.skipOne("=>", "!=", "<=", ">=", "(", ")", "{", "}", ",", ";", "=", "<", ">", "+", "-", "*", "_")
	if text == "" {
		return api.Lex{}, api.ErrByte
	}
	return told(api.TokSign, text, true)
}

func (r *reader) nameBytes() string {
	return r.take(letters, digits, low)
}

// isName tells whether text, all of bytes that a name may have, is one.
func isName(text string) bool {
	return text != "" && among(text[0], letters) && len(text) <= api.MaxName
}

func told(kind api.TokenKind, text string, right bool) (api.Lex, api.Errno) {
	if !right {
		return api.Lex{}, api.ErrToken
	}
	return api.Lex{Kind: kind, Text: text}, api.OK
}

// left is what is left of a source: the bytes from at on.
type left struct {
	source string
	at     int
}

func (l *left) ended() bool {
	return l.at == len(l.source)
}

// next tells whether a byte of one of the sets stands next.
func (l *left) next(sets ...string) bool {
	return !l.ended() && among(l.source[l.at], sets...)
}

// pass goes by all bytes of the sets.
func (l *left) pass(sets ...string) {
	for l.next(sets...) {
		l.at++
	}
}

// passTo goes by all bytes ahead of the next c, or of the end.
func (l *left) passTo(c byte) {
	for !l.ended() && l.source[l.at] != c {
		l.at++
	}
}

// take goes by all bytes of the sets, and tells them, as new memory.
func (l *left) take(sets ...string) string {
	from := l.at
	l.pass(sets...)
	return strings.Clone(l.source[from:l.at])
}

// skip goes by text, and tells whether it stood next.
func (l *left) skip(text string) bool {
	stands := strings.HasPrefix(l.source[l.at:], text)
	if stands {
		l.at += len(text)
	}
	return stands
}

// skipOne goes by the first one of texts that stands next, and tells it; nothing, if none does.
func (l *left) skipOne(texts ...string) string {
	for _, text := range texts {
		if l.skip(text) {
			return text
		}
	}
	return ""
}

// among tells whether one of the sets has c.
func among(c byte, sets ...string) bool {
	for _, set := range sets {
		if strings.IndexByte(set, c) >= 0 {
			return true
		}
	}
	return false
}
