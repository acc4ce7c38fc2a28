package overlay_test

import (
	"strings"
	"testing"

	"overlay/api"
	"overlay/overlay"
)

// one is a delta's bytes: a put of each table, and a drop. Its pieces begin at the places of onePieces, the last of which is its end.
const one = "\x00\x00\x00\x00\x00\x00\x00\x01\x04\x01\x00" + mac + hop + "\x02\x02" + rule + "\x01\x01" + route + hop + "\x01\x02\x00\x06\x06\x01"

var onePieces = []int{0, 8, 9, 11, 17, 21, 23, 25, 27, 32, 36, 38, 40, 42}

// decoded: does Decode tell that error, and nothing else?
func decoded(t *testing.T, what, text string, kind api.Errno, at int) {
	t.Helper()
	d, err := overlay.Decode([]byte(text))
	expect(t, what, err, kind, at)
	if d.Version != 0 || d.Ops != nil {
		t.Errorf("%s: an error, and %v", what, d)
	}
}

func TestP4DecodeTellsTheDelta(t *testing.T) {
	all := delta(1, put(api.Mac, mac, hop), drop(api.Acl, rule), put(api.Route, route, hop), put(api.Acl, "\x00\x06", "\x06\x01"))
	d, err := overlay.Decode([]byte(one))
	if err != nil || !sameDelta(d, all) {
		t.Errorf("%v, %v, want %v", d, err, all)
	}
	for _, d := range []api.Delta{
		all,
		delta(1<<64-2, drop(api.Mac, "\xfe\xff\xff\xff\xff\xff")),
		delta(0x0102030405060708, put(api.Route, "\x00\x00\x00\x00\x00", "\x00\x00\x00\x01"), put(api.Route, "\xff\xff\xff\xff\x20", "\x01\x00\x00\x00")),
		delta(256, rules(api.MaxOps)...),
		delta(7, put(api.Acl, "\xff\xff", "\x00\x00"), put(api.Acl, "\x00\x00", "\x11\x01")),
	} {
		b, err := overlay.Encode(d)
		if err != nil {
			t.Fatal(err)
		}
		back, err := overlay.Decode(b)
		if err != nil || !sameDelta(back, d) {
			t.Errorf("%v, %v, want %v", back, err, d)
		}
	}
}

func TestP4DecodeOfTheExample(t *testing.T) {
	example := "\x00\x00\x00\x00\x00\x00\x00\x01\x01\x01\x00" + mac + hop
	d, err := overlay.Decode([]byte(example))
	if want := delta(1, put(api.Mac, mac, hop)); err != nil || !sameDelta(d, want) {
		t.Errorf("%v, %v, want %v", d, err, want)
	}
	decoded(t, "less the last", example[:20], api.ErrShort, 17)
	decoded(t, "with one more", example+"\x00", api.ErrMore, 21)
	decoded(t, "3 in place of 2", with(example, 11, "\x03"), api.ErrKey, 11)
}

func TestP4DecodeOfBytesThatEndWithinAPiece(t *testing.T) {
	refuseCutOff(t, decoded, one, onePieces)
	_, err := overlay.Decode(nil)
	expect(t, "nil", err, api.ErrShort, 0)
}

func TestP4DecodeOfBytesBehindTheEnd(t *testing.T) {
	for _, more := range []string{"\x00", "\x01", one, strings.Repeat("\xff", 1000)} {
		decoded(t, "bytes behind", one+more, api.ErrMore, len(one))
	}
	decoded(t, "a drop with a value", one[:8]+"\x01\x02\x00"+mac+hop, api.ErrMore, 17)
	decoded(t, "one change less than there are", with(one, 8, "\x03"), api.ErrMore, 36)
	decoded(t, "one change more than there are", with(one, 8, "\x05"), api.ErrShort, 42)
}

func TestP4DecodeOfPiecesThatMayNotBe(t *testing.T) {
	refuse(t, decoded, one, onePieces, []wrongPiece{
		{"version 0", 7, "\x00", api.ErrVersion, 0},
		{"version 2^64 - 1", 0, "\xff\xff\xff\xff\xff\xff\xff\xff", api.ErrVersion, 0},
		{"no changes", 8, "\x00", api.ErrCount, 8},
		{"nine changes", 8, "\x09", api.ErrCount, 8},
		{"255 changes", 8, "\xff", api.ErrCount, 8},
		{"kind 0", 9, "\x00", api.ErrKind, 9},
		{"kind 3", 21, "\x03", api.ErrKind, 21},
		{"kind 255", 25, "\xff", api.ErrKind, 25},
		{"table 3", 10, "\x03", api.ErrKind, 9},
		{"table 255", 37, "\xff", api.ErrKind, 36},
		{"a group's address", 11, "\x01", api.ErrKey, 11},
		{"length 33", 31, "\x21", api.ErrKey, 27},
		{"length 15", 31, "\x0f", api.ErrKey, 27},
		{"a key twice, a drop first", 39, "\x05", api.ErrTwice, 38},
		{"an endpoint of noughts", 17, "\x00\x00\x00\x00", api.ErrValue, 17},
		{"a hop of noughts", 32, "\x00\x00\x00\x00", api.ErrValue, 32},
		{"protocol 7", 40, "\x07", api.ErrValue, 40},
		{"neither 0 nor 1", 41, "\x02", api.ErrValue, 40},
	})
	decoded(t, "a key twice, a put first", one[:8]+"\x02"+one[9:21]+"\x02\x00"+mac, api.ErrTwice, 23)
	decoded(t, "a key twice, then no value", one[:8]+"\x02"+one[9:21]+"\x01\x00"+mac, api.ErrTwice, 23)
}

// recoded: what Encode tells of the delta that Decode told; with an error a text, if there is anything else beside it.
func recoded(text string) (string, error) {
	d, err := overlay.Decode([]byte(text))
	if err != nil {
		if d.Version != 0 || d.Ops != nil {
			return "a delta", err
		}
		return "", err
	}
	b, _ := overlay.Encode(d)
	return string(b), nil
}

func TestP4DecodeAgreesWithEncode(t *testing.T) { agreeByteByByte(t, recoded, one) }

func TestP1DecodeEndsAndNeverPanics(t *testing.T) { agreeAtNoise(t, recoded, one) }

func TestP2DecodeKeepsAndWritesNothing(t *testing.T) {
	long := []byte(one + "behind")
	b := long[:len(one)]
	d, err := overlay.Decode(b)
	if err != nil || string(long) != one+"behind" {
		t.Fatalf("bytes were written into: %q, %v", long, err)
	}
	again, err := overlay.Decode(b)
	if err != nil {
		t.Fatal(err)
	}
	clear(long)
	if back, err := overlay.Encode(d); err != nil || string(back) != one {
		t.Errorf("a delta that hangs on the bytes handed in: %q, %v", back, err)
	}
	clear(d.Ops[:cap(d.Ops)])
	if back, err := overlay.Encode(again); err != nil || string(back) != one {
		t.Errorf("two deltas share memory: %q, %v", back, err)
	}
}
