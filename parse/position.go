package parse

import (
	"slices"

	"ropewalk/api"
)

// position is where a parser is: the tokens that are left, of which the last one is never gone by, and the first fault.
type position struct {
	left  []api.Lex
	fault api.Fault
}

func (p *position) next() api.Lex {
	return p.left[0]
}

func (p *position) at() int {
	return p.next().At
}

func (p *position) pass() {
	p.left = p.left[1:]
}

// fail leaves nothing but a token that is of no kind: nobody goes by it, so that every row ends, and every call comes back.
func (p *position) fail() {
	if p.fault.Err == api.OK {
		p.fault = api.Fault{Err: api.ErrSyntax, At: p.at()}
		p.left = []api.Lex{{}}
	}
}

// is tells whether one of the words and signs stands next: a name behind a ? or a ' may have a word's text, and is none.
func (p *position) is(texts ...string) bool {
	token := p.next()
	return (token.Kind == api.TokWord || token.Kind == api.TokSign) && slices.Contains(texts, token.Text)
}

// skip goes by one of the words and signs, and tells which one: nothing, if none of them stands next.
func (p *position) skip(texts ...string) string {
	if !p.is(texts...) {
		return ""
	}
	text := p.next().Text
	p.pass()
	return text
}

// ask goes by one of the words and signs, which must stand next.
func (p *position) ask(texts ...string) {
	if p.skip(texts...) == "" {
		p.fail()
	}
}

// take goes by a token of the kind, which must stand next, and tells its text.
func (p *position) take(kind api.TokenKind) string {
	token := p.next()
	if token.Kind != kind {
		p.fail()
		return ""
	}
	p.pass()
	return token.Text
}
