package overlay_test

import (
	"math"
	"strings"
	"testing"

	"overlay/api"
	"overlay/overlay"
)

// oddTexts: of many lengths, among them those of keys and values.
func oddTexts() []string {
	all := []string{mac, route, rule, hop}
	for n := range 9 {
		all = append(all, strings.Repeat("\x00", n), strings.Repeat("\xff", n))
	}
	return append(all, strings.Repeat("\x0a", 1000))
}

// found: is the answer a value, and true; or ("") nothing, and false?
func found(t *testing.T, what, address, got string, ok bool, want string) {
	t.Helper()
	if got != want || ok != (want != "") {
		t.Errorf("%s of %q: %q, %v, want %q", what, address, got, ok, want)
	}
}

func TestP7NothingIsFoundInNewTables(t *testing.T) {
	x := overlay.NewTables()
	for _, s := range oddTexts() {
		v, ok := x.Mac(s)
		found(t, "Mac", s, v, ok, "")
		v, ok = x.Route(s)
		found(t, "Route", s, v, ok, "")
	}
	for _, n := range oddNumbers {
		if v, ok := x.Acl(n); v != 0 || ok {
			t.Errorf("Acl(%d) = %d, %v", n, v, ok)
		}
	}
}

func TestP7Mac(t *testing.T) {
	noughts, high := "\x00\x00\x00\x00\x00\x00", "\xfe\xff\xff\xff\xff\xff"
	x := tablesOf(t, put(api.Mac, mac, hop), put(api.Mac, noughts, "\x01\x00\x00\x00"), put(api.Mac, high, "\x00\x00\x00\x01"), put(api.Route, "\x00\x00\x00\x00\x00", "\x09\x09\x09\x09"), put(api.Acl, "\x00\x00", "\x00\x01"))
	for address, want := range map[string]string{
		mac: hop, noughts: "\x01\x00\x00\x00", high: "\x00\x00\x00\x01",
		"\x02\x00\x00\x00\x00\x02": "", "\x03\x00\x00\x00\x00\x01": "", "\xff\xff\xff\xff\xff\xff": "",
		"": "", mac[:5]: "", mac + "\x00": "", mac + mac: "", noughts[:5]: "", noughts[:2]: "", noughts + "\x00": "",
	} {
		v, ok := x.Mac(address)
		found(t, "Mac", address, v, ok, want)
	}
	apply(t, x, put(api.Mac, mac, "\x02\x02\x02\x02"), drop(api.Mac, noughts))
	v, ok := x.Mac(mac)
	found(t, "Mac, with another value,", mac, v, ok, "\x02\x02\x02\x02")
	v, ok = x.Mac(noughts)
	found(t, "Mac, dropped,", noughts, v, ok, "")
}

func TestP7RouteOfTheExample(t *testing.T) {
	x := tablesOf(t, put(api.Route, "\x0a\x00\x00\x00\x08", "\x01\x01\x01\x01"), put(api.Route, "\x0a\x01\x00\x00\x10", "\x02\x02\x02\x02"))
	for address, want := range map[string]string{"\x0a\x01\x09\x09": "\x02\x02\x02\x02", "\x0a\x09\x09\x09": "\x01\x01\x01\x01", "\x0b\x00\x00\x00": ""} {
		v, ok := x.Route(address)
		found(t, "Route", address, v, ok, want)
	}
	err := x.Apply(delta(1, put(api.Route, "\x0a\x01\x00\x00\x08", hop)))
	expect(t, "10.1.0.0 of length 8", err, api.ErrKey, 0)
}

// four: a number in four bytes.
func four(n uint32) string {
	return string([]byte{byte(n >> 24), byte(n >> 16), byte(n >> 8), byte(n)})
}

func TestP7RouteOfEveryLength(t *testing.T) {
	const address = 0xa5c3e10f
	x := overlay.NewTables()
	for length := range 33 {
		first := uint32(address) >> (32 - length) << (32 - length)
		apply(t, x, put(api.Route, four(first)+string([]byte{byte(length)}), four(uint32(length+1))))
	}
	for length := range 33 { // the address itself, or one that differs just behind so many bits
		other := uint32(address)
		if length < 32 {
			other ^= 1 << (31 - length)
		}
		v, ok := x.Route(four(other))
		found(t, "Route", four(other), v, ok, four(uint32(length+1)))
	}
	for length := 32; length >= 0; length-- {
		first := uint32(address) >> (32 - length) << (32 - length)
		apply(t, x, drop(api.Route, four(first)+string([]byte{byte(length)})))
		want := ""
		if length > 0 {
			want = four(uint32(length))
		}
		v, ok := x.Route(four(address))
		found(t, "Route", four(address), v, ok, want)
	}
}

func TestP7RouteOfAnAddressOfAnotherLength(t *testing.T) {
	x := tablesOf(t, put(api.Route, "\x00\x00\x00\x00\x00", hop), put(api.Route, "\x0a\x01\x00\x00\x10", hop), put(api.Mac, "\x00\x00\x00\x00\x00\x00", hop))
	for _, s := range oddTexts() {
		want := ""
		if len(s) == 4 {
			want = hop
		}
		v, ok := x.Route(s)
		found(t, "Route", s, v, ok, want)
	}
}

// lies: does an address of four bytes have a route's first bits?
func lies(address string, key string) bool {
	for i := range int(key[4]) {
		if (address[i/8]^key[i/8])>>(7-i%8)&1 == 1 {
			return false
		}
	}
	return true
}

func TestP7RouteIsTheLongest(t *testing.T) {
	var n noise
	x := overlay.NewTables()
	for range 4000 {
		op := someChange(&n)
		apply(t, x, op)
		address := four(uint32(n.below(1<<24))<<8 | uint32(n.below(256)))
		want, longest := "", -1
		for k, v := range x.Entries() {
			if k.Table == api.Route && lies(address, k.Bytes) && int(k.Bytes[4]) > longest {
				want, longest = v, int(k.Bytes[4])
			}
		}
		v, ok := x.Route(address)
		found(t, "Route", address, v, ok, want)
	}
}

func TestP7AclOfTheExample(t *testing.T) {
	x := tablesOf(t, put(api.Acl, "\x00\x05", "\x06\x00"), put(api.Acl, "\x00\x09", "\x00\x01"))
	for protocol, want := range map[int]int{6: 0, 17: 1} {
		if v, ok := x.Acl(protocol); v != want || !ok {
			t.Errorf("Acl(%d) = %d, %v", protocol, v, ok)
		}
	}
}

func TestP7Acl(t *testing.T) {
	const no = -1
	for _, c := range []struct {
		what  string
		rules []api.Op
		want  map[int]int
	}{
		{"no rules, but other tables", []api.Op{put(api.Mac, mac, hop), put(api.Route, route, "\x00\x01\x01\x01")}, map[int]int{0: no, 6: no, 10: no}},
		{"a rule of a protocol", []api.Op{put(api.Acl, rule, "\x06\x01")}, map[int]int{6: 1, 0: no, 17: no, 1: no, -6: no, 262: no, 6 - 256: no, 1<<32 + 6: no, math.MinInt: no}},
		{"another one", []api.Op{put(api.Acl, rule, "\x11\x00")}, map[int]int{17: 0, 0: no, 6: no, 273: no}},
		{"a rule of all", []api.Op{put(api.Acl, rule, "\x00\x01")}, map[int]int{0: 1, 6: 1, 17: 1, 1: 1, -1: 1, 256: 1, math.MaxInt: 1, math.MinInt: 1}},
		{"the least priority, of all", []api.Op{put(api.Acl, "\x00\x02", "\x06\x00"), put(api.Acl, "\x00\x01", "\x00\x01")}, map[int]int{6: 1, 17: 1, 0: 1}},
		{"the least priority, of one", []api.Op{put(api.Acl, "\x00\x02", "\x00\x00"), put(api.Acl, "\x00\x01", "\x06\x01")}, map[int]int{6: 1, 17: 0, 0: 0}},
		{"the higher byte comes first", []api.Op{put(api.Acl, "\x01\x00", "\x06\x01"), put(api.Acl, "\x00\xff", "\x06\x00")}, map[int]int{6: 0}},
		{"the least and the greatest", []api.Op{put(api.Acl, "\xff\xff", "\x11\x00"), put(api.Acl, "\x00\x00", "\x11\x01"), put(api.Acl, "\x80\x00", "\x11\x00")}, map[int]int{17: 1}},
		{"a rule in place of another", []api.Op{put(api.Acl, rule, "\x06\x01"), put(api.Acl, rule, "\x06\x00")}, map[int]int{6: 0}},
		{"a rule that is dropped", []api.Op{put(api.Acl, rule, "\x06\x01"), put(api.Acl, "\x00\x06", "\x00\x00"), drop(api.Acl, rule)}, map[int]int{6: 0}},
	} {
		x := tablesOf(t, c.rules...)
		for protocol, want := range c.want {
			v, ok := x.Acl(protocol)
			if ok != (want != no) || v != max(want, 0) {
				t.Errorf("%s: Acl(%d) = %d, %v", c.what, protocol, v, ok)
			}
		}
	}
}
