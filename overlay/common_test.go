package overlay_test

import (
	"errors"
	"math"
	"slices"
	"testing"

	"overlay/api"
)

const (
	mac   = "\x02\x00\x00\x00\x00\x01"
	route = "\x0a\x01\x00\x00\x10"
	rule  = "\x00\x05"
	hop   = "\x0a\x00\x00\x01"
)

// Numbers at the edges of what an int, a byte or a bound can be.
var oddNumbers = []int{math.MinInt, math.MinInt32, -257, -256, -255, -1, 0, 1, 2, 3, 4, 255, 256, 257, 258, math.MaxInt32, 1 << 32, 1<<32 + 1, math.MaxInt}

func put(table int, key, value string) api.Op {
	return api.Op{Kind: api.Put, Key: api.Key{Table: table, Bytes: key}, Value: value}
}

func drop(table int, key string) api.Op {
	return api.Op{Kind: api.Drop, Key: api.Key{Table: table, Bytes: key}}
}

func delta(version uint64, ops ...api.Op) api.Delta {
	return api.Delta{Version: version, Ops: ops}
}

// rules: so many changes, each of a priority of its own.
func rules(n int) []api.Op {
	var ops []api.Op
	for i := range n {
		ops = append(ops, put(api.Acl, string([]byte{1, byte(i)}), "\x00\x01"))
	}
	return ops
}

func sameDelta(a, b api.Delta) bool {
	return a.Version == b.Version && slices.Equal(a.Ops, b.Ops)
}

// faultOf: the Fault that an error is.
func faultOf(t *testing.T, err error) api.Fault {
	t.Helper()
	var f *api.Fault
	if !errors.As(err, &f) {
		t.Fatalf("an error that is no Fault: %v", err)
	}
	return *f
}

// expect: is an error of that kind, at that place, with no cause (OK: is there none)?
func expect(t *testing.T, what string, err error, kind api.Errno, at int) {
	t.Helper()
	if kind == api.OK {
		if err != nil {
			t.Errorf("%s: %v, want no error", what, err)
		}
		return
	}
	f := faultOf(t, err)
	if f.Kind != kind || f.At != at || f.Cause != nil {
		t.Errorf("%s: %v, want %v at %d", what, err, kind, at)
	}
	for k := api.OK; k <= api.ErrOrder; k++ {
		if errors.Is(err, k) != (k == kind) {
			t.Errorf("%s: errors.Is of %v: %v", what, k, k != kind)
		}
	}
}

// with: a text whose bytes from a place on are others.
func with(text string, at int, others string) string {
	return text[:at] + others + text[at+len(others):]
}

// wrongPiece is bytes that, laid at a place, make a piece one that may not be.
type wrongPiece struct {
	what   string
	at     int
	others string
	kind   api.Errno
	place  int // where the piece begins
}

// refuse: does a check (refused) hold of a text with each of these pieces: whole, with bytes behind, and cut off behind and within the piece?
func refuse(t *testing.T, refused func(t *testing.T, what, text string, kind api.Errno, at int), text string, pieces []int, wrong []wrongPiece) {
	t.Helper()
	for _, w := range wrong {
		bad := with(text, w.at, w.others)
		i, _ := slices.BinarySearch(pieces, w.place)
		end := pieces[i+1]
		refused(t, w.what, bad, w.kind, w.place)
		refused(t, w.what+", and bytes behind", bad+"?", w.kind, w.place)
		refused(t, w.what+", as the last piece", bad[:end], w.kind, w.place)
		refused(t, w.what+", cut off", bad[:end-1], api.ErrShort, w.place)
	}
}

// refuseCutOff: does a check hold of a text that ends within each of its pieces?
func refuseCutOff(t *testing.T, refused func(t *testing.T, what, text string, kind api.Errno, at int), text string, pieces []int) {
	t.Helper()
	for i, begin := range pieces[:len(pieces)-1] {
		for end := begin; end < pieces[i+1]; end++ {
			refused(t, "cut off", text[:end], api.ErrShort, begin)
		}
	}
}

// agree: are bytes that are read and told again (again) the same bytes; or is there a fault, behind bytes that could be read so far?
func agree(t *testing.T, again func(string) (string, error), text string) {
	t.Helper()
	back, err := again(text)
	if err == nil {
		if back != text {
			t.Errorf("%q: told again: %q", text, back)
		}
		return
	}
	f := faultOf(t, err)
	if f.At < 0 || f.At > len(text) || back != "" {
		t.Fatalf("%q: %v, and beside it %q", text, err, back)
	}
	ahead := text[:f.At]
	if f.Kind == api.ErrMore {
		agree(t, again, ahead)
		return
	}
	_, err = again(ahead)
	expect(t, "the pieces ahead of a fault", err, api.ErrShort, f.At)
}

// agreeByteByByte: each byte of a text in turn is each other one.
func agreeByteByByte(t *testing.T, again func(string) (string, error), text string) {
	t.Helper()
	for at := range len(text) {
		for x := range 256 {
			agree(t, again, with(text, at, string([]byte{byte(x)})))
		}
	}
}

// noise: numbers without a plan, but the same ones in each run.
type noise uint32

func (n *noise) below(bound int) int {
	*n = *n*1664525 + 1013904223
	return int(*n>>8) % bound
}

// agreeAtNoise: of many texts, cut off anywhere, one byte in eight is another.
func agreeAtNoise(t *testing.T, again func(string) (string, error), text string) {
	t.Helper()
	var n noise
	for i := range 20000 {
		b := []byte(text)[:i%(len(text)+1)]
		for at := range b {
			if n.below(8) == 0 {
				b[at] = byte(n.below(256))
			}
		}
		agree(t, again, string(b))
	}
}
