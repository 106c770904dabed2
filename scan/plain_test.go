package scan_test

import (
	"math/big"
	"math/rand"
	"regexp"
	"slices"
	"strings"
	"testing"

	"ropewalk/api"
	"ropewalk/scan"
)

// pieces are what may stand next: what goes by, a word or a name, a ? or a ' and what may be behind it, digits and what may not be behind them, a sign.
var pieces = regexp.MustCompile(`^(?s:([\t\n\r ]|#[^\n]*)|([a-z][a-z0-9_]*)|([?'])([a-z0-9_]*)|([0-9]+)([a-z_])?|(=>|!=|<=|>=|[(){},;=<>+*_-]))`)

var name = regexp.MustCompile(`^[a-z][a-z0-9_]{0,23}$`)

// plain says what the chapter says of s, piece by piece.
func plain(s string) ([]api.Lex, api.Fault) {
	if len(s) > 16384 {
		return nil, api.Fault{Err: api.ErrLong}
	}
	var l []api.Lex
	at := 0
	for at < len(s) {
		p := pieces.FindStringSubmatch(s[at:])
		if p == nil {
			return nil, api.Fault{Err: api.ErrByte, At: at}
		}
		next, right := api.Lex{At: at}, true
		switch {
		case p[2] != "":
			next.Kind, next.Text, right = api.TokName, p[2], name.MatchString(p[2])
			if slices.Contains(words, p[2]) {
				next.Kind = api.TokWord
			}
		case p[3] != "":
			next.Kind, next.Text, right = api.TokVar, p[4], name.MatchString(p[4])
			if p[3] == "'" {
				next.Kind = api.TokAtom
			}
		case p[5] != "":
			n, _ := new(big.Int).SetString(p[5], 10)
			next.Kind, next.Text, right = api.TokNum, p[5], n.IsInt64() && p[6] == ""
		case p[7] != "":
			next.Kind, next.Text = api.TokSign, p[7]
		}
		if !right {
			return nil, api.Fault{Err: api.ErrToken, At: at}
		}
		if next.Kind != 0 {
			l = append(l, next)
		}
		at += len(p[0])
	}
	return append(l, api.Lex{Kind: api.TokEnd, At: len(s)}), api.Fault{}
}

// plainly holds what is told of s against what is plain, and tells whether it is a fault.
func plainly(t *testing.T, s string) api.Errno {
	t.Helper()
	want, fault := plain(s)
	if fault.Err == api.OK {
		mustTell(t, s, want...)
	} else {
		mustFail(t, s, fault.Err, fault.At)
	}
	return fault.Err
}

// P4.1: each byte, each two, and each three of those that mean something.
func TestAllShortSources(t *testing.T) {
	const some = "az09_ \n\r#?'!=<>(-*;A.\x00\xff"
	for i := range 256 {
		plainly(t, string([]byte{byte(i)}))
		for j := range 256 {
			plainly(t, string([]byte{byte(i), byte(j)}))
		}
	}
	for _, i := range []byte(some) {
		for _, j := range []byte(some) {
			for _, k := range []byte(some) {
				plainly(t, string([]byte{i, j, k}))
				plainly(t, string([]byte{'a', i, j, k}))
			}
		}
	}
}

// chance makes sources, the same ones each time.
type chance struct{ *rand.Rand }

func maker(seed int64) chance { return chance{rand.New(rand.NewSource(seed))} }

func (m chance) one(of []string) string { return of[m.Intn(len(of))] }

func (m chance) bytes(of string, size int) string {
	var b strings.Builder
	for range size {
		b.WriteByte(of[m.Intn(len(of))])
	}
	return b.String()
}

// name has 1 to 24 bytes.
func (m chance) name() string {
	if m.Intn(8) == 0 {
		return m.one(words)
	}
	return m.bytes(letters, 1) + m.bytes(nameBytes, m.Intn(2)*m.Intn(api.MaxName))
}

func (m chance) number() string {
	return m.one([]string{"0", "00", "12", most, "0" + most, m.bytes(digits, 1+m.Intn(18))})
}

// blanks has one blank or comment at least.
func (m chance) blanks() string {
	var b strings.Builder
	for range 1 + m.Intn(3) {
		b.WriteString(m.one([]string{" ", "\t", "\r", "\n", "#\n", "# rule r { ?!\n", "#" + strings.ReplaceAll(m.bytes("ab#?! \r\x00\xff", m.Intn(9)), "\n", "") + "\n"}))
	}
	return b.String()
}

// wrong is most often no token.
func (m chance) wrong() string {
	return m.one([]string{"!", "?", "'", "?1", "'_", "1a", "0_", oneMore, "A", "\x00", "\xff", "\"", strings.Repeat("a", 25), "?" + strings.Repeat("b", 25), string([]byte{byte(m.Intn(256))})})
}

// P4.1: any sources, of tokens and what is none, with or without blanks between.
func TestAnySource(t *testing.T) {
	m := maker(4)
	told := map[api.Errno]int{}
	for range 30000 {
		var b strings.Builder
		for range m.Intn(12) {
			b.WriteString(m.token().written())
			if m.Intn(2) == 0 {
				b.WriteString(m.blanks())
			}
			if m.Intn(30) == 0 {
				b.WriteString(m.wrong())
			}
		}
		told[plainly(t, b.String())]++
	}
	if told[api.OK] < 5000 || told[api.ErrToken] < 5000 || told[api.ErrByte] < 1000 {
		t.Errorf("told were %v", told)
	}
}

// P4.1: any bytes of the full length.
func TestAnyBytes(t *testing.T) {
	m := maker(5)
	for range 300 {
		plainly(t, m.bytes("ab_ \n#(=>", m.Intn(400)))
		plainly(t, m.bytes("azr09_ \t\n\r#?'!=<>(){},;+-*A\xff", m.Intn(60)))
	}
	plainly(t, m.bytes("a (=>\n", api.MaxSource))
	plainly(t, m.bytes("a (=>\n", api.MaxSource+1))
	if tokens, fault := scan.Tokens(m.bytes("\x00\x80\xff", api.MaxSource)); tokens != nil || fault != (api.Fault{Err: api.ErrByte}) {
		t.Errorf("%v", fault)
	}
}
