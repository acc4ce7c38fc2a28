package overlay_test

import (
	"bytes"
	"math"
	"slices"
	"strings"
	"testing"

	"overlay/api"
	"overlay/overlay"
)

// state is a state's bytes: two entries of each table. Its pieces begin at the places of statePieces, the last of which is its end.
const (
	seven = "\x00\x00\x00\x00\x00\x00\x00\x07"
	state = seven + "\x00\x06" +
		"\x00" + mac + hop + "\x00\x02\x00\x00\x00\x00\x02" + hop +
		"\x01\x0a\x00\x00\x00\x08" + hop + "\x01" + route + hop +
		"\x02" + rule + "\x06\x01" + "\x02\x01\x00\x11\x00"
)

var statePieces = []int{0, 8, 10, 11, 17, 21, 22, 28, 32, 33, 38, 42, 43, 48, 52, 53, 55, 57, 58, 60, 62}

// stateOps: changes that lay the entries of state, the last first.
func stateOps() []api.Op {
	return []api.Op{
		put(api.Acl, "\x01\x00", "\x11\x00"), put(api.Acl, rule, "\x06\x01"),
		put(api.Route, route, hop), put(api.Route, "\x0a\x00\x00\x00\x08", hop),
		put(api.Mac, "\x02\x00\x00\x00\x00\x02", hop), put(api.Mac, mac, hop),
	}
}

// stateEntries: the entries of state.
func stateEntries() []entry {
	l := laid(stateOps()...)
	slices.Reverse(l)
	return l
}

// encodedAll: does EncodeAll tell these bytes, or that error and nothing else?
func encodedAll(t *testing.T, what string, v uint64, x *overlay.Tables, want string, kind api.Errno) {
	t.Helper()
	b, err := overlay.EncodeAll(v, x)
	expect(t, what, err, kind, 0)
	if string(b) != want || (b == nil) != (err != nil) {
		t.Errorf("%s: %q, want %q", what, b, want)
	}
}

// decodedAll: does DecodeAll tell that error, and nothing else?
func decodedAll(t *testing.T, what, text string, kind api.Errno, at int) {
	t.Helper()
	v, x, err := overlay.DecodeAll([]byte(text))
	expect(t, what, err, kind, at)
	if v != 0 || x != nil {
		t.Errorf("%s: an error, and %d, %v", what, v, x)
	}
}

func TestP8EncodeAllTellsAState(t *testing.T) {
	x := tablesOf(t, stateOps()...)
	encodedAll(t, "no entries", 7, overlay.NewTables(), seven+"\x00\x00", api.OK)
	encodedAll(t, "entries of each table", 7, x, state, api.OK)
	encodedAll(t, "a version of eight bytes", 0x0102030405060708, x, "\x01\x02\x03\x04\x05\x06\x07\x08"+state[8:], api.OK)
	encodedAll(t, "version 1", 1, x, with(state, 7, "\x01"), api.OK)
	encodedAll(t, "the greatest version", math.MaxUint64-1, x, with(state, 0, "\xff\xff\xff\xff\xff\xff\xff\xfe"), api.OK)
	encodedAll(t, "version 0", 0, x, "", api.ErrVersion)
	encodedAll(t, "version 2^64 - 1", math.MaxUint64, x, "", api.ErrVersion)
	hold(t, "behind it all", x, stateEntries())
}

func TestP1EncodeAllOfNoTables(t *testing.T) {
	encodedAll(t, "nil", 7, nil, seven+"\x00\x00", api.OK)
	encodedAll(t, "nil, and version 0", 0, nil, "", api.ErrVersion)
	encodedAll(t, "made by no call", 7, &overlay.Tables{}, seven+"\x00\x00", api.OK)
}

func TestP8DecodeAllTellsVersionAndTables(t *testing.T) {
	for text, want := range map[string][]entry{
		seven + "\x00\x00":                      nil,
		state:                                   stateEntries(),
		state[:8] + "\x00\x01" + state[10:21]:   stateEntries()[:1],
		state[:8] + "\x00\x02" + state[52:]:     stateEntries()[4:],
		state[:8] + "\x00\x04" + state[10:52]:   stateEntries()[:4],
		seven + "\x00\x01\x02\xff\xff\x00\x00":  laid(put(api.Acl, "\xff\xff", "\x00\x00")),
		seven + "\x00\x01\x02\x00\x00\x11\x01":  laid(put(api.Acl, "\x00\x00", "\x11\x01")),
		seven + "\x00\x02" + sameFirst(api.Mac): laid(put(api.Mac, "\x00\x00\x00\x00\x00\x00", hop), put(api.Route, "\x00\x00\x00\x00\x00", hop)),
	} {
		v, x, err := overlay.DecodeAll([]byte(text))
		if v != 7 || x == nil || err != nil {
			t.Errorf("%q: %d, %v, %v", text, v, x, err)
			continue
		}
		hold(t, "a state", x, want)
	}
	for _, version := range []uint64{1, 256, 1 << 56, math.MaxUint64 - 1} {
		b, err := overlay.EncodeAll(version, overlay.NewTables())
		v, _, again := overlay.DecodeAll(b)
		if v != version || err != nil || again != nil {
			t.Errorf("version %d: %d, %v, %v", version, v, err, again)
		}
	}
}

// sameFirst: two entries whose keys are of noughts alone, of a table and of the next one.
func sameFirst(table byte) string {
	return string([]byte{table}) + "\x00\x00\x00\x00\x00\x00" + hop + string([]byte{table + 1}) + "\x00\x00\x00\x00\x00" + hop
}

func TestP8TablesOfAStateCanBeChanged(t *testing.T) {
	_, x, err := overlay.DecodeAll([]byte(state))
	if err != nil {
		t.Fatal(err)
	}
	if v, ok := x.Mac(mac); v != hop || !ok {
		t.Errorf("Mac: %q, %v", v, ok)
	}
	if v, ok := x.Route("\x0a\x01\x02\x03"); v != hop || !ok {
		t.Errorf("Route: %q, %v", v, ok)
	}
	if v, ok := x.Acl(6); v != 1 || !ok {
		t.Errorf("Acl: %d, %v", v, ok)
	}
	for _, op := range stateOps()[1:] {
		apply(t, x, drop(op.Key.Table, op.Key.Bytes))
	}
	hold(t, "all dropped but one", x, laid(stateOps()[0]))
}

func TestP8DecodeAllOfBytesThatEndWithinAPiece(t *testing.T) {
	refuseCutOff(t, decodedAll, state, statePieces)
	_, _, err := overlay.DecodeAll(nil)
	expect(t, "nil", err, api.ErrShort, 0)
	decodedAll(t, "as many entries as may be, and none there", seven+"\xff\xff", api.ErrShort, 10)
	decodedAll(t, "256 more entries than there are", with(state, 8, "\x01"), api.ErrShort, len(state))
}

func TestP8DecodeAllOfBytesBehindTheEnd(t *testing.T) {
	decodedAll(t, "the example", seven+"\x00\x00?", api.ErrMore, 10)
	for _, more := range []string{"\x00", "\x02", state, strings.Repeat("\xff", 1000)} {
		decodedAll(t, "bytes behind", state+more, api.ErrMore, len(state))
	}
	decodedAll(t, "one entry less than there are", with(state, 9, "\x05"), api.ErrMore, 57)
	decodedAll(t, "no entries, but there are", with(state, 9, "\x00"), api.ErrMore, 10)
}

func TestP8DecodeAllOfPiecesThatMayNotBe(t *testing.T) {
	refuse(t, decodedAll, state, statePieces, []wrongPiece{
		{"version 0", 7, "\x00", api.ErrVersion, 0},
		{"version 2^64 - 1", 0, "\xff\xff\xff\xff\xff\xff\xff\xff", api.ErrVersion, 0},
		{"table 3", 10, "\x03", api.ErrKind, 10},
		{"table 255", 57, "\xff", api.ErrKind, 57},
		{"a group's address", 11, "\x03", api.ErrKey, 11},
		{"a group's address, out of order", 22, "\x01", api.ErrKey, 22},
		{"length 33", 37, "\x21", api.ErrKey, 33},
		{"a bit behind the length", 36, "\x01", api.ErrKey, 33},
		{"a key twice", 27, "\x01", api.ErrOrder, 22},
		{"a key ahead of the last", 27, "\x00", api.ErrOrder, 22},
		{"a route ahead of the last", 43, "\x0a\x00\x00\x00\x07", api.ErrOrder, 43},
		{"a rule twice", 58, rule, api.ErrOrder, 58},
		{"a rule ahead of the last", 58, "\x00\x04", api.ErrOrder, 58},
		{"an endpoint of noughts", 17, "\x00\x00\x00\x00", api.ErrValue, 17},
		{"a hop of noughts", 48, "\x00\x00\x00\x00", api.ErrValue, 48},
		{"protocol 7", 55, "\x07", api.ErrValue, 55},
		{"neither 0 nor 1", 61, "\x02", api.ErrValue, 60},
	})
}

func TestP8DecodeAllOfTablesOutOfOrder(t *testing.T) {
	head := seven + "\x00\x02"
	ofMac, ofRoute, ofRule := "\x00"+mac+hop, "\x01"+route+hop, "\x02"+rule+"\x06\x01"
	decodedAll(t, "Route, Mac", head+ofRoute+ofMac, api.ErrOrder, 21)
	decodedAll(t, "Acl, Mac", head+ofRule+ofMac, api.ErrOrder, 16)
	decodedAll(t, "Acl, Route", head+ofRule+ofRoute, api.ErrOrder, 16)
	decodedAll(t, "Acl, Route, and no value", head+ofRule+ofRoute[:6], api.ErrOrder, 16)
	decodedAll(t, "a key whose bytes stand behind, of a table that stands ahead", head+"\x01\x00\x00\x00\x00\x00"+hop+ofMac, api.ErrOrder, 21)
}

// recodedAll: what EncodeAll tells of what DecodeAll told; with an error a text, if there is anything else beside it.
func recodedAll(text string) (string, error) {
	v, x, err := overlay.DecodeAll([]byte(text))
	if err != nil {
		if v != 0 || x != nil {
			return "tables", err
		}
		return "", err
	}
	b, _ := overlay.EncodeAll(v, x)
	return string(b), nil
}

func TestP8DecodeAllAgreesWithEncodeAll(t *testing.T) { agreeByteByByte(t, recodedAll, state) }

func TestP1DecodeAllEndsAndNeverPanics(t *testing.T) { agreeAtNoise(t, recodedAll, state) }

func TestP8AsManyEntriesAsMayBe(t *testing.T) {
	text := []byte(seven + "\xff\xff")
	for i := range 65535 {
		text = append(text, "\x02"+string([]byte{byte(i >> 8), byte(i)})+"\x00\x01"...)
	}
	v, x, err := overlay.DecodeAll(text)
	if v != 7 || err != nil || x.Count(api.Acl) != 65535 || x.Size() != 5*65535 {
		t.Fatalf("%d, %v", v, err)
	}
	if b, err := overlay.EncodeAll(v, x); err != nil || !bytes.Equal(b, text) {
		t.Errorf("told again, they are others: %v", err)
	}
	apply(t, x, put(api.Mac, mac, hop), put(api.Route, route, hop))
	b, err := overlay.EncodeAll(v, x) // the document bounds no tables: two bytes are the number's lowest
	if err != nil || string(b[8:10]) != "\x00\x01" || len(b) != len(text)+21 {
		t.Errorf("two more: %d bytes, %v", len(b), err)
	}
	decodedAll(t, "more than may be", string(b), api.ErrMore, 21)
}

func TestP2StatesKeepAndWriteNothing(t *testing.T) {
	long := []byte(state + "behind")
	b := long[:len(state)]
	_, x, err := overlay.DecodeAll(b)
	_, y, again := overlay.DecodeAll(b)
	if err != nil || again != nil || string(long) != state+"behind" {
		t.Fatalf("bytes were written into: %q, %v, %v", long, err, again)
	}
	clear(long)
	apply(t, y, drop(api.Mac, mac), put(api.Route, route, "\x09\x09\x09\x09"))
	hold(t, "behind bytes that are written over, and other tables' changes", x, stateEntries())
	told, _ := overlay.EncodeAll(7, x)
	clear(told[:cap(told)])
	encodedAll(t, "behind bytes told that are written over", 7, x, state, api.OK)
}
