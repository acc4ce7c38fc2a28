package overlay_test

import (
	"math"
	"slices"
	"strings"
	"testing"

	"overlay/api"
	"overlay/overlay"
)

// encoded: does Encode tell these bytes, or that error and nothing else?
func encoded(t *testing.T, what string, d api.Delta, want string, kind api.Errno, at int) {
	t.Helper()
	b, err := overlay.Encode(d)
	expect(t, what, err, kind, at)
	if string(b) != want || (b == nil) != (err != nil) {
		t.Errorf("%s: %q, want %q", what, b, want)
	}
}

func TestP3EncodeTellsBytes(t *testing.T) {
	const seven = "\x00\x00\x00\x00\x00\x00\x00"
	for _, c := range []struct {
		what string
		d    api.Delta
		want string
	}{
		{"the example", delta(1, put(api.Mac, mac, hop)), seven + "\x01\x01\x01\x00" + mac + hop},
		{"a drop of each table", delta(2, drop(api.Acl, rule), drop(api.Route, route), drop(api.Mac, mac)), seven + "\x02\x03\x02\x02" + rule + "\x02\x01" + route + "\x02\x00" + mac},
		{"a put of each table", delta(0x0102030405060708, put(api.Route, route, hop), put(api.Mac, mac, hop), put(api.Acl, rule, "\x11\x01")), "\x01\x02\x03\x04\x05\x06\x07\x08\x03\x01\x01" + route + hop + "\x01\x00" + mac + hop + "\x01\x02" + rule + "\x11\x01"},
		{"the greatest version", delta(math.MaxUint64-1, drop(api.Acl, "\xff\xff")), "\xff\xff\xff\xff\xff\xff\xff\xfe\x01\x02\x02\xff\xff"},
		{"the shortest route", delta(1, put(api.Route, "\x00\x00\x00\x00\x00", hop)), seven + "\x01\x01\x01\x01\x00\x00\x00\x00\x00" + hop},
		{"the longest route", delta(1, put(api.Route, "\xff\xff\xff\xff\x20", hop)), seven + "\x01\x01\x01\x01\xff\xff\xff\xff\x20" + hop},
		{"the same bytes in two tables' keys", delta(1, drop(api.Mac, "\x00\x00\x00\x00\x00\x00"), drop(api.Route, "\x00\x00\x00\x00\x00"), drop(api.Acl, "\x00\x00")), seven + "\x01\x03\x02\x00\x00\x00\x00\x00\x00\x00\x02\x01\x00\x00\x00\x00\x00\x02\x02\x00\x00"},
	} {
		encoded(t, c.what, c.d, c.want, api.OK, 0)
	}
	b, err := overlay.Encode(delta(1, rules(api.MaxOps)...))
	if err != nil || len(b) != 9+6*api.MaxOps || b[8] != api.MaxOps {
		t.Errorf("as many changes as may be: %q, %v", b, err)
	}
}

func TestP3EncodeOfVersionAndCount(t *testing.T) {
	one := put(api.Mac, mac, hop)
	encoded(t, "version 0", delta(0, one), "", api.ErrVersion, 0)
	encoded(t, "version 2^64 - 1", delta(math.MaxUint64, one), "", api.ErrVersion, 0)
	encoded(t, "no changes", delta(1), "", api.ErrCount, 0)
	encoded(t, "no changes, but a list", api.Delta{Version: 1, Ops: []api.Op{}}, "", api.ErrCount, 0)
	for _, n := range []int{api.MaxOps + 1, 256, 257, 1000} {
		encoded(t, "too many changes", delta(1, rules(n)...), "", api.ErrCount, 0)
	}
}

func TestP3EncodeOfChangesThatMayNotBe(t *testing.T) {
	good := put(api.Acl, "\xff\xff", "\x00\x00")
	for _, c := range []struct {
		what string
		op   api.Op
		kind api.Errno
	}{
		{"no kind", api.Op{Key: api.Key{Bytes: mac}, Value: hop}, api.ErrKind},
		{"kind 3", api.Op{Kind: 3, Key: api.Key{Bytes: mac}, Value: hop}, api.ErrKind},
		{"table 3", put(3, mac, hop), api.ErrKind},
		{"table -1", drop(-1, mac), api.ErrKind},
		{"a group's address", put(api.Mac, "\x03\x00\x00\x00\x00\x01", hop), api.ErrKey},
		{"a short address", put(api.Mac, mac[:5], hop), api.ErrKey},
		{"a long address", put(api.Mac, mac+"\x00", hop), api.ErrKey},
		{"no key", drop(api.Mac, ""), api.ErrKey},
		{"a bit behind a route's length", put(api.Route, "\x0a\x01\x00\x00\x08", hop), api.ErrKey},
		{"a bit just behind a route's length", put(api.Route, "\x0a\x01\x00\x00\x0f", hop), api.ErrKey},
		{"length 33", put(api.Route, "\x0a\x01\x00\x00\x21", hop), api.ErrKey},
		{"length 255", drop(api.Route, "\x00\x00\x00\x00\xff"), api.ErrKey},
		{"a short priority", drop(api.Acl, "\x00"), api.ErrKey},
		{"a long priority", drop(api.Acl, "\x00\x00\x05"), api.ErrKey},
		{"a key of another table", put(api.Route, mac, hop), api.ErrKey},
		{"an endpoint of noughts", put(api.Mac, mac, "\x00\x00\x00\x00"), api.ErrValue},
		{"a short endpoint", put(api.Mac, mac, hop[:3]), api.ErrValue},
		{"a long endpoint", put(api.Mac, mac, hop+"\x00"), api.ErrValue},
		{"no endpoint", put(api.Mac, mac, ""), api.ErrValue},
		{"a hop of noughts", put(api.Route, route, "\x00\x00\x00\x00"), api.ErrValue},
		{"protocol 1", put(api.Acl, rule, "\x01\x00"), api.ErrValue},
		{"neither 0 nor 1", put(api.Acl, rule, "\x06\x02"), api.ErrValue},
		{"a rule of one byte", put(api.Acl, rule, "\x06"), api.ErrValue},
		{"a drop with a value", api.Op{Kind: api.Drop, Key: api.Key{Bytes: mac}, Value: hop}, api.ErrValue},
		{"a drop with a nought", api.Op{Kind: api.Drop, Key: api.Key{Bytes: mac}, Value: "\x00"}, api.ErrValue},
	} {
		encoded(t, c.what, delta(1, c.op), "", c.kind, 0)
		encoded(t, c.what+", behind another", delta(1, good, c.op), "", c.kind, 1)
		last := append(rules(api.MaxOps-1), c.op)
		encoded(t, c.what+", as the last", delta(1, last...), "", c.kind, api.MaxOps-1)
	}
}

func TestP3EncodeOfAKeyTwice(t *testing.T) {
	a, b, c := put(api.Mac, mac, hop), put(api.Route, route, hop), put(api.Acl, rule, "\x06\x01")
	encoded(t, "put twice", delta(1, a, a), "", api.ErrTwice, 1)
	encoded(t, "put and dropped", delta(1, a, b, drop(api.Mac, mac)), "", api.ErrTwice, 2)
	encoded(t, "dropped and put", delta(1, drop(api.Route, route), a, c, b), "", api.ErrTwice, 3)
	encoded(t, "dropped twice", delta(1, b, drop(api.Acl, rule), a, drop(api.Acl, rule)), "", api.ErrTwice, 3)
	encoded(t, "put twice, with another value", delta(1, c, put(api.Acl, rule, "\x11\x00")), "", api.ErrTwice, 1)
}

func TestP1EncodeTellsTheErrorNamedFirst(t *testing.T) {
	bad := api.Op{Kind: 9, Key: api.Key{Table: 9, Bytes: "?"}, Value: "?"}
	encoded(t, "version, count", delta(0), "", api.ErrVersion, 0)
	encoded(t, "version, count, changes", delta(math.MaxUint64, make([]api.Op, 9)...), "", api.ErrVersion, 0)
	encoded(t, "count, changes", delta(1, make([]api.Op, 9)...), "", api.ErrCount, 0)
	encoded(t, "kind, key, value", delta(1, bad), "", api.ErrKind, 0)
	encoded(t, "table, key, value", delta(1, put(3, "?", "?")), "", api.ErrKind, 0)
	encoded(t, "key, value", delta(1, put(api.Mac, "?", "?")), "", api.ErrKey, 0)
	encoded(t, "key, value of a drop", delta(1, api.Op{Kind: api.Drop, Value: "?"}), "", api.ErrKey, 0)
	encoded(t, "twice, value", delta(1, put(api.Mac, mac, hop), put(api.Mac, mac, "")), "", api.ErrTwice, 1)
	encoded(t, "a value, then a kind", delta(1, put(api.Mac, mac, ""), bad), "", api.ErrValue, 0)
	encoded(t, "a key twice that is none", delta(1, drop(api.Mac, "?"), drop(api.Mac, "?")), "", api.ErrKey, 0)
}

func TestP1EncodeNeverPanics(t *testing.T) {
	texts := []string{"", "\x00", rule, hop, route, mac, strings.Repeat("\xff", 300)}
	for _, kind := range oddNumbers {
		for _, table := range oddNumbers {
			for _, key := range texts {
				for _, value := range texts {
					d := delta(1, api.Op{Kind: kind, Key: api.Key{Table: table, Bytes: key}, Value: value})
					b, err := overlay.Encode(d)
					if (b == nil) != (err != nil) {
						t.Fatalf("%v: %q, %v", d, b, err)
					}
					if kind != api.Put && kind != api.Drop || table < 0 || table > 2 {
						expect(t, "an odd kind or table", err, api.ErrKind, 0)
					}
				}
			}
		}
	}
}

func TestP2EncodeKeepsAndWritesNothing(t *testing.T) {
	ops := make([]api.Op, 2, 9)
	ops[0], ops[1] = put(api.Mac, mac, hop), drop(api.Route, route)
	before := slices.Clone(ops[:9])
	b, err := overlay.Encode(api.Delta{Version: 5, Ops: ops})
	if err != nil || !slices.Equal(ops[:9], before) {
		t.Fatalf("changes were written into: %v, %v", ops[:9], err)
	}
	told := string(b)
	ops[0], ops[1] = api.Op{}, api.Op{}
	if string(b) != told {
		t.Errorf("bytes that hang on what was handed in: %q", b)
	}
	clear(b[:cap(b)])
	again, err := overlay.Encode(api.Delta{Version: 5, Ops: before[:2]})
	if err != nil || string(again) != told {
		t.Errorf("another call's bytes: %q, %v, want %q", again, err, told)
	}
}
