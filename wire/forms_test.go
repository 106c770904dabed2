package wire_test

import (
	"encoding/hex"
	"fmt"
	"math"
	"reflect"
	"slices"
	"strings"
	"testing"

	"ropewalk/api"
	"ropewalk/wire"
)

func num(n int64) api.Value { return api.Value{Kind: api.Int, Num: n} }

func name(s string) api.Value { return api.Value{Kind: api.Name, Text: s} }

// octets are bytes that are written as hexadecimal digits, with blanks between.
func octets(s string) []byte {
	b, err := hex.DecodeString(strings.Join(strings.Fields(s), ""))
	if err != nil {
		panic(err)
	}
	return b
}

// A form is what the chapter's table says of a thing: the bytes stand here by hand.
type form struct {
	kind  string
	what  any
	bytes string
}

// Parts of the bytes below.
const (
	no   = "00000000"
	zero = "0000000000000000"
	one  = "0000000000000001"
	less = "FFFFFFFFFFFFFFFF"
	most = "7FFFFFFFFFFFFFFF"
	end  = "8000000000000000"
	some = "0102030405060708"
)

// forms are things that are written, and read as what they were.
func forms() []form {
	const all = 0x0102030405060708
	args := []api.Value{num(-1), name("ab"), num(all)}
	const argBytes = "00000003 01" + less + "02 00000002 6162 01" + some
	full := api.Command{Kind: api.CmdAssert, Text: "pq", Num: -2, Args: args}
	const fullBytes = "02 00000002 7071 FFFFFFFFFFFFFFFE" + argBytes
	return []form{
		{"number", int64(0), zero}, {"number", int64(1), one}, {"number", int64(-1), less}, {"number", int64(-2), "FFFFFFFFFFFFFFFE"},
		{"number", int64(255), "00000000000000FF"}, {"number", int64(256), "0000000000000100"}, {"number", int64(-256), "FFFFFFFFFFFFFF00"},
		{"number", int64(math.MaxInt64), most}, {"number", int64(math.MinInt64), end}, {"number", int64(math.MinInt64 + 1), "8000000000000001"},
		{"number", int64(all), some}, {"number", int64(1 << 32), "0000000100000000"}, {"number", int64(math.MaxUint32), "00000000FFFFFFFF"},

		{"text", "", no}, {"text", "a", "00000001 61"}, {"text", "ab", "00000002 6162"}, {"text", "\x00\xff\n", "00000003 00FF0A"}, {"text", "ä?", "00000003 C3A43F"},
		{"text", strings.Repeat("a", 256), "00000100" + strings.Repeat("61", 256)},

		{"value", num(0), "01" + zero}, {"value", num(-2), "01 FFFFFFFFFFFFFFFE"}, {"value", num(math.MinInt64), "01" + end}, {"value", num(math.MaxInt64), "01" + most},
		{"value", name("ab"), "02 00000002 6162"}, {"value", name(""), "02" + no}, {"value", name("A b"), "02 00000003 412062"},

		{"values", []api.Value(nil), no}, {"values", []api.Value{}, no}, {"values", []api.Value{num(1)}, "00000001 01" + one}, {"values", args, argBytes},

		{"fact", api.Fact{}, zero + zero + no}, {"fact", api.Fact{Id: -1, Type: 1, Args: []api.Value{}}, less + one + no},
		{"fact", api.Fact{Id: all, Type: math.MinInt64, Args: args}, some + end + argBytes},

		{"command", api.Command{}, "00" + no + zero + no}, {"command", api.Command{Kind: 255, Num: math.MaxInt64}, "FF" + no + most + no},
		{"command", full, fullBytes},

		{"reply", api.Reply{}, zero + zero + no + no},
		{"reply", api.Reply{Err: -1, Num: 1, Facts: []api.Fact{}, Said: []api.Value{}}, less + one + no + no},
		{"reply", api.Reply{Err: api.ErrSession, Num: -1, Said: args}, "000000000000012F" + less + no + argBytes},
		{"reply", api.Reply{Err: api.ErrFuel, Num: all, Facts: []api.Fact{{Id: 1, Args: args}, {Type: 1}}, Said: args},
			"000000000000012E" + some + "00000002" + one + zero + argBytes + zero + one + no + argBytes},

		{"entry", api.Entry{}, zero + "00" + zero + zero + "00" + no + zero + no + no},
		{"entry", api.Entry{Term: -1, Kind: 255, Session: math.MinInt64, Seq: math.MaxInt64, Voters: []int{}}, less + "FF" + end + most + "00" + no + zero + no + no},
		{"entry", api.Entry{Term: 1, Kind: api.EntryConfig, Voters: []int{1, -1, all}}, one + "03" + zero + zero + "00" + no + zero + no + "00000003" + one + less + some},
		{"entry", api.Entry{Term: all, Kind: api.EntryCommand, Session: 1, Seq: -1, Command: full, Voters: []int{9}}, some + "02" + one + less + fullBytes + "00000001 0000000000000009"},
	}
}

func written(t *testing.T, what any) []byte {
	t.Helper()
	switch x := what.(type) {
	case int64:
		return wire.Number(x)
	case string:
		return wire.Text(x)
	case api.Value:
		return wire.Value(x)
	case []api.Value:
		return wire.Values(x)
	case api.Fact:
		return wire.Fact(x)
	case api.Command:
		return wire.Command(x)
	case api.Reply:
		return wire.Reply(x)
	case api.Entry:
		return wire.Entry(x)
	}
	t.Fatalf("no form has %T", what)
	return nil
}

// kinds are the forms' names; read knows each.
var kinds = []string{"number", "text", "value", "values", "fact", "command", "reply", "entry"}

func read(r *wire.Reader, kind string) any {
	switch kind {
	case "number":
		return r.Number()
	case "text":
		return r.Text()
	case "value":
		return r.Value()
	case "values":
		return r.Values()
	case "fact":
		return r.Fact()
	case "command":
		return r.Command()
	case "reply":
		return r.Reply()
	case "entry":
		return r.Entry()
	}
	panic("no form " + kind)
}

// same holds lists without elements and nil ones for one (R6), as slices.Equal does.
func same(a, b any) bool {
	if reflect.TypeOf(a) != reflect.TypeOf(b) {
		return false
	}
	switch x := a.(type) {
	case []api.Value:
		return slices.Equal(x, b.([]api.Value))
	case api.Fact:
		return sameFact(x, b.(api.Fact))
	case api.Command:
		return sameCommand(x, b.(api.Command))
	case api.Reply:
		y := b.(api.Reply)
		return x.Err == y.Err && x.Num == y.Num && slices.EqualFunc(x.Facts, y.Facts, sameFact) && slices.Equal(x.Said, y.Said)
	case api.Entry:
		y := b.(api.Entry)
		return x.Term == y.Term && x.Kind == y.Kind && x.Session == y.Session && x.Seq == y.Seq && sameCommand(x.Command, y.Command) && slices.Equal(x.Voters, y.Voters)
	}
	return a == b
}

func sameFact(x, y api.Fact) bool {
	return x.Id == y.Id && x.Type == y.Type && slices.Equal(x.Args, y.Args)
}

func sameCommand(x, y api.Command) bool {
	return x.Kind == y.Kind && x.Text == y.Text && x.Num == y.Num && slices.Equal(x.Args, y.Args)
}

// isZero tells whether nothing is in what was read.
func isZero(what any) bool {
	return same(what, reflect.Zero(reflect.TypeOf(what)).Interface())
}

// short is what a failing test says of a thing, which may be long.
func short(what any) string { return fmt.Sprintf("%.300q", fmt.Sprint(what)) }
