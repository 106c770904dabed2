package scan_test

import (
	"slices"
	"strings"
	"testing"
	"unsafe"

	"ropewalk/api"
	"ropewalk/scan"
)

var words = []string{"fact", "rule", "salience", "not", "test", "assert", "retract", "say", "halt", "and", "or"}

var signs = []string{"(", ")", "{", "}", ",", ";", "=>", "=", "!=", "<", "<=", ">", ">=", "+", "-", "*", "_"}

const (
	letters   = "abcdefghijklmnopqrstuvwxyz"
	digits    = "0123456789"
	nameBytes = letters + digits + "_"
	most      = "9223372036854775807"
	oneMore   = "9223372036854775808"
)

func lex(kind api.TokenKind, text string, at int) api.Lex {
	return api.Lex{Kind: kind, Text: text, At: at}
}

func end(at int) api.Lex { return lex(api.TokEnd, "", at) }

// mustTell scans s, of which the tokens want must be told, each time.
func mustTell(t *testing.T, s string, want ...api.Lex) {
	t.Helper()
	for range 2 {
		if got, fault := scan.Tokens(s); !slices.Equal(got, want) || fault != (api.Fault{}) {
			t.Errorf("%q: %v, %v, not %v", s, got, fault, want)
		}
	}
}

// mustFail scans s, of which that fault, and nothing else, must be told, each time.
func mustFail(t *testing.T, s string, err api.Errno, at int) {
	t.Helper()
	for range 2 {
		if got, fault := scan.Tokens(s); got != nil || fault != (api.Fault{Err: err, At: at}) {
			t.Errorf("%q: %v, %v, not %d at %d", s, got, fault, int(err), at)
		}
	}
}

// P4.1: the chapter's examples.
func TestExamples(t *testing.T) {
	mustTell(t, "rule a{p(?x)=>}",
		lex(api.TokWord, "rule", 0), lex(api.TokName, "a", 5), lex(api.TokSign, "{", 6), lex(api.TokName, "p", 7), lex(api.TokSign, "(", 8),
		lex(api.TokVar, "x", 9), lex(api.TokSign, ")", 11), lex(api.TokSign, "=>", 12), lex(api.TokSign, "}", 14), end(15))
	mustTell(t, "'a1", lex(api.TokAtom, "a1", 0), end(3))
	mustFail(t, "12a", api.ErrToken, 0)
	mustFail(t, "a!", api.ErrByte, 1)
	mustFail(t, "?", api.ErrToken, 0)
}

// P4.1: a source as it is written.
func TestSource(t *testing.T) {
	mustTell(t, "fact n(a);\nrule up { n(?x); # counts\n\ttest ?x<=3;\r\n => retract 1; assert n('a, -?x*2); }",
		lex(api.TokWord, "fact", 0), lex(api.TokName, "n", 5), lex(api.TokSign, "(", 6), lex(api.TokName, "a", 7), lex(api.TokSign, ")", 8), lex(api.TokSign, ";", 9),
		lex(api.TokWord, "rule", 11), lex(api.TokName, "up", 16), lex(api.TokSign, "{", 19),
		lex(api.TokName, "n", 21), lex(api.TokSign, "(", 22), lex(api.TokVar, "x", 23), lex(api.TokSign, ")", 25), lex(api.TokSign, ";", 26),
		lex(api.TokWord, "test", 38), lex(api.TokVar, "x", 43), lex(api.TokSign, "<=", 45), lex(api.TokNum, "3", 47), lex(api.TokSign, ";", 48),
		lex(api.TokSign, "=>", 52), lex(api.TokWord, "retract", 55), lex(api.TokNum, "1", 63), lex(api.TokSign, ";", 64),
		lex(api.TokWord, "assert", 66), lex(api.TokName, "n", 73), lex(api.TokSign, "(", 74), lex(api.TokAtom, "a", 75), lex(api.TokSign, ",", 77),
		lex(api.TokSign, "-", 79), lex(api.TokVar, "x", 80), lex(api.TokSign, "*", 82), lex(api.TokNum, "2", 83), lex(api.TokSign, ")", 84), lex(api.TokSign, ";", 85), lex(api.TokSign, "}", 87), end(88))
}

// P4.1: nothing, blanks and comments have no tokens but the end, which stands at their length.
func TestNoTokens(t *testing.T) {
	for _, s := range []string{"", " ", "\t", "\n", "\r", "\t\n\r ", strings.Repeat(" \n", 500), "#", "##", "# a", "#\n", "#\n#", "#!\x00\xff?'\n", "#12a\r", " # a \n\t# b\n", "#\n\n#a\n#"} {
		mustTell(t, s, end(len(s)))
	}
}

// P4.1: each word is one alone, and none with anything of a name ahead or behind.
func TestWordsAndNames(t *testing.T) {
	for _, w := range words {
		mustTell(t, w, lex(api.TokWord, w, 0), end(len(w)))
		mustTell(t, " "+w+";", lex(api.TokWord, w, 1), lex(api.TokSign, ";", len(w)+1), end(len(w)+2))
		for _, c := range nameBytes {
			if s := w + string(c); !slices.Contains(words, s) {
				mustTell(t, s, lex(api.TokName, s, 0), end(len(s)))
			}
		}
		for _, c := range letters {
			if s := string(c) + w; !slices.Contains(words, s) {
				mustTell(t, s, lex(api.TokName, s, 0), end(len(s)))
			}
		}
		for _, s := range []string{w[:1], w[:len(w)-1], w + w} {
			mustTell(t, s, lex(api.TokName, s, 0), end(len(s)))
		}
	}
	for _, s := range []string{"a", "z", "a0", "z9", "a_", "a__", "m_0_", "a" + digits, letters[:24], letters[2:], "end", "program", "true", "x_rule", "rule_1"} {
		mustTell(t, s, lex(api.TokName, s, 0), end(len(s)))
	}
}

// P4.1: behind a ? or a ' there is a name, which a word is too.
func TestVarsAndAtoms(t *testing.T) {
	for kind, sign := range map[api.TokenKind]string{api.TokVar: "?", api.TokAtom: "'"} {
		for _, s := range append(slices.Clone(words), "a", "z", "x1", "a_", "z9_", "ab0_c", strings.Repeat("z", api.MaxName)) {
			mustTell(t, sign+s, lex(kind, s, 0), end(len(s)+1))
			mustTell(t, "a "+sign+s+")", lex(api.TokName, "a", 0), lex(kind, s, 2), lex(api.TokSign, ")", len(s)+3), end(len(s)+4))
		}
		for _, c := range letters {
			mustTell(t, sign+string(c), lex(kind, string(c), 0), end(2))
		}
		for _, s := range []string{"", "0", "9", "_", "_a", "1a", "0_", " a", "\na", "#a\n", "A", "(", ";", "?", "'", "?a", "'a", "-a", "\x00", "\xc3\xa4", strings.Repeat("1", api.MaxName+1)} {
			mustFail(t, sign+s, api.ErrToken, 0)
			mustFail(t, "(a "+sign+s, api.ErrToken, 3)
		}
	}
}

// P4.1: MaxName bytes are a name, one more is none, of each kind that has one.
func TestLongNames(t *testing.T) {
	full := "a" + strings.Repeat("b1_", (api.MaxName-1)/3) + "cc"
	if len(full) != api.MaxName {
		t.Fatal(len(full))
	}
	mustTell(t, full, lex(api.TokName, full, 0), end(24))
	mustTell(t, "?"+full, lex(api.TokVar, full, 0), end(25))
	mustTell(t, "'"+full, lex(api.TokAtom, full, 0), end(25))
	for _, more := range []string{"a", "0", "_", full, strings.Repeat("a", 10000)} {
		for _, sign := range []string{"", "?", "'"} {
			mustFail(t, sign+full+more, api.ErrToken, 0)
			mustFail(t, "a; "+sign+full+more+" ?", api.ErrToken, 3)
		}
	}
	mustFail(t, "rule"+strings.Repeat("e", api.MaxName), api.ErrToken, 0)
}

// P4.1: a number's digits stay as they are, and say at most 2^63 - 1.
func TestNumbersOfSources(t *testing.T) {
	for _, s := range []string{"0", "9", "10", "007", "000", most, "000" + most, strings.Repeat("0", 5000), strings.Repeat("0", 5000) + most} {
		mustTell(t, s, lex(api.TokNum, s, 0), end(len(s)))
		mustTell(t, "-"+s, lex(api.TokSign, "-", 0), lex(api.TokNum, s, 1), end(len(s)+1))
	}
	for _, s := range []string{oneMore, "9223372036854775810", "10000000000000000000", "18446744073709551615", "18446744073709551616", "18446744073709551617", "000" + oneMore, strings.Repeat("9", 5000)} {
		mustFail(t, s, api.ErrToken, 0)
		mustFail(t, "-"+s, api.ErrToken, 1)
	}
}

// P4.1: a letter or _ right behind a number's digits is a fault of the number, any other byte is none of it.
func TestBehindNumbers(t *testing.T) {
	for i := range 256 {
		c := string([]byte{byte(i)})
		for _, n := range []string{"1", "120", most} {
			switch {
			case strings.Contains(letters+"_", c):
				mustFail(t, n+c, api.ErrToken, 0)
				mustFail(t, n+c+"!", api.ErrToken, 0)
			case !strings.Contains(digits, c):
				plainly(t, n+c)
				plainly(t, n+c+"a")
			}
		}
	}
	mustTell(t, "1?x", lex(api.TokNum, "1", 0), lex(api.TokVar, "x", 1), end(3))
	mustTell(t, "1'x", lex(api.TokNum, "1", 0), lex(api.TokAtom, "x", 1), end(3))
	mustTell(t, "1#a", lex(api.TokNum, "1", 0), end(3))
	mustTell(t, "1 a", lex(api.TokNum, "1", 0), lex(api.TokName, "a", 2), end(3))
	mustTell(t, "1-2", lex(api.TokNum, "1", 0), lex(api.TokSign, "-", 1), lex(api.TokNum, "2", 2), end(3))
	mustFail(t, "1A", api.ErrByte, 1)
	mustFail(t, "1.5", api.ErrByte, 1)
	mustFail(t, "1_000", api.ErrToken, 0)
	mustFail(t, "0x1f", api.ErrToken, 0)
}

// P4.1: each sign; of those that begin alike the longest one.
func TestSigns(t *testing.T) {
	for _, s := range signs {
		mustTell(t, s, lex(api.TokSign, s, 0), end(len(s)))
		mustTell(t, "("+s+" ?a", lex(api.TokSign, "(", 0), lex(api.TokSign, s, 1), lex(api.TokVar, "a", len(s)+2), end(len(s)+4))
		for _, more := range signs {
			plainly(t, s+more)
			plainly(t, s+more+s)
		}
	}
	for s, parts := range map[string][]string{
		"=>": {"=>"}, "==>": {"=", "=>"}, "=>=": {"=>", "="}, "=>>": {"=>", ">"}, "=>=>": {"=>", "=>"}, "==": {"=", "="}, "= >": {"=", "", ">"}, "=<": {"=", "<"}, "=<=": {"=", "<="},
		"<=>": {"<=", ">"}, "<==": {"<=", "="}, "<=>=": {"<=", ">="}, "<>": {"<", ">"}, "<<=": {"<", "<="}, "< =": {"<", "", "="},
		">=": {">="}, ">=>": {">=", ">"}, ">==": {">=", "="}, "> =": {">", "", "="}, ">=<": {">=", "<"},
		"!=": {"!="}, "!==": {"!=", "="}, "!=>": {"!=", ">"}, "=!=": {"=", "!="}, "<!=": {"<", "!="},
		"__": {"_", "_"}, "--": {"-", "-"}, "->": {"-", ">"}, "*=": {"*", "="}, "({})": {"(", "{", "}", ")"},
	} {
		var want []api.Lex
		at := 0
		for _, p := range parts {
			if p == "" { // a blank
				at++
				continue
			}
			want = append(want, lex(api.TokSign, p, at))
			at += len(p)
		}
		mustTell(t, s, append(want, end(at))...)
	}
	mustTell(t, "_a", lex(api.TokSign, "_", 0), lex(api.TokName, "a", 1), end(2))
	mustTell(t, "_rule", lex(api.TokSign, "_", 0), lex(api.TokWord, "rule", 1), end(5))
	mustTell(t, "_1", lex(api.TokSign, "_", 0), lex(api.TokNum, "1", 1), end(2))
	mustTell(t, "a_", lex(api.TokName, "a_", 0), end(2))
}

// P4.1: bytes that no token begins with, wherever they stand; within a comment they are none.
func TestWrongBytes(t *testing.T) {
	for i := range 256 {
		c := string([]byte{byte(i)})
		if strings.Contains(nameBytes+"\t\n\r #?'(){},;=<>+-*", c) {
			continue
		}
		mustFail(t, c, api.ErrByte, 0)
		mustFail(t, "a"+c, api.ErrByte, 1)
		mustFail(t, "1"+c, api.ErrByte, 1)
		mustFail(t, "?x"+c, api.ErrByte, 2)
		mustFail(t, "rule <="+c+"a ?", api.ErrByte, 7)
		mustFail(t, "# a\n\t"+c, api.ErrByte, 5)
		mustTell(t, "a#"+c+"\nb", lex(api.TokName, "a", 0), lex(api.TokName, "b", 4), end(5))
	}
	for s, at := range map[string]int{"!": 0, "! =": 0, "!!=": 0, "!<": 0, "a!": 1, "=!": 1, "a!=!": 3, "hive(B)": 5, "a\xc3\xa4": 1, "\xef\xbb\xbffact": 0, "a\x00": 1, "a\v": 1, "a\f": 1, "a\xa0": 1, "a&b": 1, "a.b": 1, "\"a\"": 0, "a[1]": 1, "a|b": 1, "7/2": 1, "a:b": 1} {
		mustFail(t, s, api.ErrByte, at)
	}
}

// P4.1: of several faults the first one that stands there is told, whatever it is.
func TestFirstFault(t *testing.T) {
	long := strings.Repeat("a", api.MaxName+1)
	mustFail(t, "! 12a", api.ErrByte, 0)
	mustFail(t, "12a !", api.ErrToken, 0)
	mustFail(t, "12a!", api.ErrToken, 0)
	mustFail(t, "a; ? !", api.ErrToken, 3)
	mustFail(t, "a; ! ?", api.ErrByte, 3)
	mustFail(t, "?!", api.ErrToken, 0)
	mustFail(t, "!?", api.ErrByte, 0)
	mustFail(t, long+"!", api.ErrToken, 0)
	mustFail(t, "!"+long, api.ErrByte, 0)
	mustFail(t, "# !\n("+oneMore+" 1a !", api.ErrToken, 5)
	mustFail(t, "(\n"+long+"\n"+oneMore, api.ErrToken, 2)
	mustFail(t, oneMore+"a", api.ErrToken, 0)
}

// P4.1: a comment goes on to the next byte 10 alone, or to the end.
func TestComments(t *testing.T) {
	for i := range 256 {
		c := string([]byte{byte(i)})
		for _, s := range []string{"a #" + c + "b", "a #b" + c, "a # " + c + "? b", "#" + c + "\n#" + c + "\nb", "a" + c + "b"} {
			plainly(t, s)
		}
		want := []api.Lex{lex(api.TokName, "a", 0), end(4)}
		if c == "\n" {
			want = []api.Lex{lex(api.TokName, "a", 0), lex(api.TokName, "b", 3), end(4)}
		}
		mustTell(t, "a#"+c+"b", want...)
	}
	mustTell(t, "a#b#c\nd#", lex(api.TokName, "a", 0), lex(api.TokName, "d", 6), end(8))
	mustTell(t, "#\n#\n\n#\n2#\r2", lex(api.TokNum, "2", 7), end(11))
	mustTell(t, "=#\n>", lex(api.TokSign, "=", 0), lex(api.TokSign, ">", 3), end(4))
	mustFail(t, "?#\nx", api.ErrToken, 0)
}

// P4.1: as many bytes as a source may have, and one more, ahead of all other faults.
func TestLong(t *testing.T) {
	full := strings.Repeat("(", api.MaxSource)
	var want []api.Lex
	for at := range api.MaxSource {
		want = append(want, lex(api.TokSign, "(", at))
	}
	if got, fault := scan.Tokens(full); !slices.Equal(got, append(want, end(api.MaxSource))) || fault != (api.Fault{}) {
		t.Errorf("%d tokens, %v", len(got), fault)
	}
	mustTell(t, strings.Repeat(" ", api.MaxSource-1)+"a", lex(api.TokName, "a", api.MaxSource-1), end(api.MaxSource))
	mustTell(t, "#"+strings.Repeat("a", api.MaxSource-1), end(api.MaxSource))
	mustTell(t, strings.Repeat("0", api.MaxSource), lex(api.TokNum, strings.Repeat("0", api.MaxSource), 0), end(api.MaxSource))
	mustFail(t, full[1:]+"!", api.ErrByte, api.MaxSource-1)
	mustFail(t, full[1:]+"?", api.ErrToken, api.MaxSource-1)
	mustFail(t, strings.Repeat("a", api.MaxSource), api.ErrToken, 0)
	for _, s := range []string{full + "(", full + " ", full + "\n", full + "!", "!" + full, "12a" + full, strings.Repeat(" ", api.MaxSource+1), "#" + full, strings.Repeat("a", api.MaxSource+1), strings.Repeat("\x00", 1<<20)} {
		mustFail(t, s, api.ErrLong, 0)
	}
}

// P4.1 with R3: what is told is new memory, texts too, and no part of another answer.
func TestTokensShareNothing(t *testing.T) {
	s := "rule up { hive(?x, 'bee, 120, _); => halt; }"
	first, _ := scan.Tokens(s)
	again, _ := scan.Tokens(s)
	want := slices.Clone(again)
	begin := uintptr(unsafe.Pointer(unsafe.StringData(s)))
	for _, l := range first {
		if at := uintptr(unsafe.Pointer(unsafe.StringData(l.Text))); l.Text != "" && begin <= at && at < begin+uintptr(len(s)) {
			t.Errorf("%v is a part of the source", l)
		}
	}
	clear(first)
	_ = append(first[:0], make([]api.Lex, cap(first))...)
	if !slices.Equal(again, want) {
		t.Errorf("another answer was changed: %v", again)
	}
	mustTell(t, s, want...)
}
