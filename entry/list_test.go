package entry

import (
	"slices"
	"testing"

	"overlay/api"
)

func TestCompare(t *testing.T) {
	inOrder := []api.Key{
		{Table: api.Mac, Bytes: ""},
		{Table: api.Mac, Bytes: "\x00"},
		{Table: api.Mac, Bytes: "\x00\x00"},
		{Table: api.Mac, Bytes: "\x7f\xff"},
		{Table: api.Mac, Bytes: "\x80"},
		{Table: api.Route, Bytes: ""},
		{Table: api.Route, Bytes: "\xff"},
		{Table: api.Acl, Bytes: "\x00"},
	}
	for i, a := range inOrder {
		for j, b := range inOrder {
			if got := Compare(a, b); got < 0 != (i < j) || got > 0 != (i > j) {
				t.Errorf("%x and %x: %d", a, b, got)
			}
		}
	}
}

func TestAfterLeavesTheListAsItIs(t *testing.T) {
	key := func(low byte) api.Key { return api.Key{Table: api.Acl, Bytes: string([]byte{0, low})} }
	l := make(List, 0, 9) // with room, so that a change in its own memory would show
	for i := range byte(3) {
		l = append(l, Entry{key(2 * i), "\x06\x00"})
	}
	before := slices.Clone(l)
	l.After([]api.Op{{Kind: api.Put, Key: key(1), Value: "\x00\x01"}})
	l.After([]api.Op{{Kind: api.Put, Key: key(2), Value: "\x00\x01"}})
	l.After([]api.Op{{Kind: api.Drop, Key: key(0)}})
	if !slices.Equal(l, before) {
		t.Errorf("%x, want %x", l, before)
	}
	for _, e := range l[:cap(l)][len(l):] {
		if e != (Entry{}) {
			t.Errorf("behind its end: %x", e)
		}
	}
}
