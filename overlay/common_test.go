package overlay_test

import (
	"errors"
	"math"
	"slices"
	"testing"

	"overlay/api"
)

const (
	mac   = "\x02\x00\x00\x00\x00\x01"
	route = "\x0a\x01\x00\x00\x10"
	rule  = "\x00\x05"
	hop   = "\x0a\x00\x00\x01"
)

// Numbers at the edges of what an int, a byte or a bound can be.
var oddNumbers = []int{math.MinInt, math.MinInt32, -257, -256, -255, -1, 0, 1, 2, 3, 4, 255, 256, 257, 258, math.MaxInt32, 1 << 32, 1<<32 + 1, math.MaxInt}

func put(table int, key, value string) api.Op {
	return api.Op{Kind: api.Put, Key: api.Key{Table: table, Bytes: key}, Value: value}
}

func drop(table int, key string) api.Op {
	return api.Op{Kind: api.Drop, Key: api.Key{Table: table, Bytes: key}}
}

func delta(version uint64, ops ...api.Op) api.Delta {
	return api.Delta{Version: version, Ops: ops}
}

// rules: so many changes, each of a priority of its own.
func rules(n int) []api.Op {
	var ops []api.Op
	for i := range n {
		ops = append(ops, put(api.Acl, string([]byte{1, byte(i)}), "\x00\x01"))
	}
	return ops
}

func sameDelta(a, b api.Delta) bool {
	return a.Version == b.Version && slices.Equal(a.Ops, b.Ops)
}

// faultOf: the Fault that an error is.
func faultOf(t *testing.T, err error) api.Fault {
	t.Helper()
	var f *api.Fault
	if !errors.As(err, &f) {
		t.Fatalf("an error that is no Fault: %v", err)
	}
	return *f
}

// expect: is an error of that kind, at that place, with no cause (OK: is there none)?
func expect(t *testing.T, what string, err error, kind api.Errno, at int) {
	t.Helper()
	if kind == api.OK {
		if err != nil {
			t.Errorf("%s: %v, want no error", what, err)
		}
		return
	}
	f := faultOf(t, err)
	if f.Kind != kind || f.At != at || f.Cause != nil {
		t.Errorf("%s: %v, want %v at %d", what, err, kind, at)
	}
	for k := api.OK; k <= api.ErrOrder; k++ {
		if errors.Is(err, k) != (k == kind) {
			t.Errorf("%s: errors.Is of %v: %v", what, k, k != kind)
		}
	}
}
