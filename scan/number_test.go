package scan_test

import (
	"math"
	"math/big"
	"slices"
	"strconv"
	"strings"
	"testing"

	"ropewalk/scan"
)

func says(t *testing.T, s string, want int64) {
	t.Helper()
	if n, ok := scan.Number(s); n != want || !ok {
		t.Errorf("%.40q: %d, %v, not %d", s, n, ok, want)
	}
}

func saysNone(t *testing.T, s string) {
	t.Helper()
	if n, ok := scan.Number(s); n != 0 || ok {
		t.Errorf("%.40q: %d, %v", s, n, ok)
	}
}

// P4.2: what digits say, noughts ahead or not.
func TestNumber(t *testing.T) {
	for _, n := range []int64{0, 1, 7, 8, 9, 10, 11, 99, 100, 101, 4096, 1<<31 - 1, 1 << 31, 1 << 32, 1<<53 + 1, 999999999999999999, 1000000000000000000, math.MaxInt64 - 8, math.MaxInt64 - 1, math.MaxInt64} {
		s := strconv.FormatInt(n, 10)
		for _, ahead := range []int{0, 1, 2, 18, 19, 20, 21, 64, 70000} {
			says(t, strings.Repeat("0", ahead)+s, n)
		}
	}
	says(t, "0123", 123)
	says(t, "010", 10)
	for n := range int64(2000) {
		says(t, strconv.FormatInt(n, 10), n)
	}
}

// P4.2: numbers about 2^63, 2^64 and beyond, against numbers of any length.
func TestNumberLarge(t *testing.T) {
	for shift := range 140 {
		for near := int64(-12); near <= 12; near++ {
			n := new(big.Int).Lsh(big.NewInt(1), uint(shift))
			n.Add(n, big.NewInt(near))
			switch {
			case n.Sign() < 0:
				saysNone(t, n.String())
			case n.IsInt64():
				says(t, n.String(), n.Int64())
				says(t, "00"+n.String(), n.Int64())
			default:
				saysNone(t, n.String())
				saysNone(t, strings.Repeat("0", 30)+n.String())
			}
		}
	}
	for size := range 60 {
		for _, digit := range []string{"1", "8", "9"} {
			s := digit + strings.Repeat("0", size)
			n, _ := new(big.Int).SetString(s, 10)
			if n.IsInt64() {
				says(t, s, n.Int64())
			} else {
				saysNone(t, s)
			}
		}
	}
	saysNone(t, strings.Repeat("9", 70000))
	saysNone(t, "1"+strings.Repeat("0", 70000))
}

// P4.2: no number's digits.
func TestNumberWrong(t *testing.T) {
	for _, s := range []string{"", " ", "-", "+", "-1", "+1", "-0", "--1", "1-", " 1", "1 ", "1\n", "\t1", "1 2", "1_0", "_1", "1_", "0x10", "0b1", "0o7", "1e3", "1.0", ".5", "a", "12a", "a12", "0a", "?1", "'1", "1;", "1#", "\x001", "1\x00", "٣", "1٣", "１", "1\xff", "nan", "inf", "-" + oneMore, "+" + most, most + " ", "a" + oneMore, oneMore + "a"} {
		saysNone(t, s)
	}
	for i := range 256 {
		c := string([]byte{byte(i)})
		if strings.Contains(digits, c) {
			says(t, c, int64(i-'0'))
			says(t, "1"+c+"2", int64(i-'0')*10+102)
			continue
		}
		for _, s := range []string{c, c + "1", "1" + c, "1" + c + "2", c + c, c + most, most + c} {
			saysNone(t, s)
		}
	}
}

// P4.2: the words, in their order; R3: who gets them may change them.
func TestWords(t *testing.T) {
	got := scan.Words()
	if !slices.Equal(got, words) {
		t.Fatalf("%q", got)
	}
	clear(got)
	_ = append(got[:0], make([]string, cap(got))...)
	if again := scan.Words(); !slices.Equal(again, words) {
		t.Errorf("told again: %q", again)
	}
	if tokens, _ := scan.Tokens("rule"); len(tokens) != 2 || tokens[0].Text != "rule" || tokens[0].Kind != 1 {
		t.Errorf("words that were changed change tokens: %v", tokens)
	}
}
