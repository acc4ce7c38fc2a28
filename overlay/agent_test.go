package overlay_test

import (
	"slices"
	"strconv"
	"strings"
	"testing"

	"overlay/api"
	"overlay/overlay"
)

func TestP10StartOnNoughts(t *testing.T) {
	for sectors := api.MinSectors; sectors <= api.MaxSectors; sectors++ {
		r := started(t, sectors, plenty)
		r.stands("a new agent", 0, nil)
		r.did("a new agent")
	}
	r := started(t, api.MinSectors, [api.Tables]int{})
	r.stands("a datapath without room", 0, nil)
}

func TestP10StartBringsTheDatapathToTheTables(t *testing.T) {
	old := laid(put(api.Mac, mac, hop), put(api.Acl, rule, "\x06\x01"), put(-1, "odd", "odd"), put(api.Route, route, hop), put(api.Mac, "\x00", ""))
	done := []api.Op{drop(-1, "odd"), drop(api.Mac, "\x00"), drop(api.Mac, mac), drop(api.Route, route), drop(api.Acl, rule)}
	for _, l := range orders(old) {
		p := pathOf(t, plenty, l)
		a, err := overlay.Start(diskOf(api.MinSectors), p)
		expect(t, "Start", err, api.OK, 0)
		p.holds("Start", nil, done)
		r := &rig{t: t, p: p, a: a}
		r.tells("Start", "R0")
		r.stands("Start", 0, nil)
	}
}

func TestP1StartOfNothing(t *testing.T) {
	p := pathOf(t, plenty, laid(put(api.Mac, mac, hop)))
	a, err := overlay.Start(nil, p)
	expect(t, "no disk", err, api.ErrDisk, 0)
	if a != nil {
		t.Error("no disk, but an agent")
	}
	p.holds("no disk", laid(put(api.Mac, mac, hop)), nil)
	if a, err = overlay.Start(diskOf(api.MinSectors), nil); err != nil {
		t.Fatalf("no datapath: %v", err)
	}
	r := &rig{t: t, a: a}
	r.tells("no datapath", "R0")
	r.sends("a drop, and no datapath", change(t, 1, drop(api.Mac, mac)), "A1")
	r.sends("a put, and no datapath", change(t, 2, put(api.Route, route, hop)), "E10")
	expect(t, "a put, and no datapath", a.Degraded(), api.ErrFull, api.Route)
}

func TestP10AgentsShareNothing(t *testing.T) {
	r, s := started(t, 32, plenty), started(t, 32, plenty)
	r.sends("of one", change(t, 1, put(api.Mac, mac, hop)), "A1")
	r.a.Receive([]byte(begin(9, 2)))
	s.tells("of the other", "")
	s.ticks("of the other", "R0")
	s.stands("the other", 0, nil)
	r.tells("of one", "W0")
}

func TestP11TheExample(t *testing.T) {
	r := started(t, 32, plenty)
	one := put(api.Mac, mac, hop)
	r.sends("version 1", change(t, 1, one), "A1")
	r.sends("the same again", change(t, 1, one), "A1")
	r.sends("version 3", change(t, 3, one), "R1")
	other := change(t, 2, one)
	for i := range other {
		r.idle("one byte is another", with(other, i, string([]byte{other[i] ^ 1})), "E3 R1")
	}
	text := stateText(t, 7, one)
	r.sends("a state begins", begin(7, 2), "W0")
	r.sends("piece 1", piece(1, text[9:]), "W0")
	r.sends("piece 0", piece(0, text[:9]), "W1")
	r.ticks("Tick", "W1")
	r.sends("piece 1, and it is whole", piece(1, text[9:]), "A7")
}

func TestP11TheBytesOfFrames(t *testing.T) {
	r := started(t, 32, plenty)
	next := func(what string, kind byte, body string) {
		t.Helper()
		if frame, ok := r.a.Next(); !ok || string(frame) != sealed(kind, body) {
			t.Errorf("%s: %q, %v, want %q", what, frame, ok, sealed(kind, body))
		}
	}
	r.jumps(0x0102030405060708)
	r.a.Tick()
	next("where it stands", api.FrameResume, "\x01\x02\x03\x04\x05\x06\x07\x08")
	r.a.Receive([]byte(change(t, 0x0102030405060709, put(api.Mac, mac, hop))))
	next("an acknowledgement", api.FrameAck, "\x01\x02\x03\x04\x05\x06\x07\x09")
	r.a.Receive([]byte(sealed(99, "")))
	next("a fault", api.FrameError, "\x06")
	next("where it stands, behind a fault", api.FrameResume, "\x01\x02\x03\x04\x05\x06\x07\x09")
	r.a.Receive([]byte(begin(greatest, 2)))
	next("a want", api.FrameWant, "\x00")
	r.a.Receive([]byte(piece(0, "a")))
	next("another want", api.FrameWant, "\x01")
	r.tells("nothing more", "")
}

func TestP11AtMostSoManyFramesWait(t *testing.T) {
	for n := range 2*api.MaxOut + 1 {
		r := started(t, 32, plenty)
		for range n {
			r.a.Tick()
		}
		r.tells("Ticks", strings.TrimSpace(strings.Repeat("R0 ", min(n, api.MaxOut))))
		r.ticks("there is room again", "R0")
	}
	a, err := overlay.Start(diskOf(32), pathOf(t, plenty, nil))
	if err != nil {
		t.Fatal(err)
	}
	r := &rig{t: t, d: diskOf(32), p: pathOf(t, plenty, nil), a: a}
	for range 4 {
		a.Receive([]byte(""))
	}
	r.tells("faults behind the first", "R0 E1 R0 E1 R0 E1")
}

func TestP11FramesWaitInTheirOrder(t *testing.T) {
	r := started(t, 32, plenty)
	r.a.Receive([]byte(change(t, 1, put(api.Mac, mac, hop))))
	r.a.Receive([]byte(begin(9, 3)))
	r.a.Receive([]byte(change(t, 2, drop(api.Mac, mac))))
	for _, want := range []string{"A1", "W0"} {
		if frame, ok := r.a.Next(); !ok || r.named(frame) != want {
			t.Errorf("%q, want %s", frame, want)
		}
	}
	r.a.Receive([]byte(piece(0, "a")))
	r.a.Receive([]byte("?"))
	r.a.Tick()
	r.a.Receive([]byte(ask()))
	r.a.Receive([]byte(change(t, 3, put(api.Mac, mac, hop)))) // its acknowledgement is lost
	r.tells("in their order", "A2 W1 E1 R2 W1 R2")
	r.stands("an acknowledgement is lost, and not the delta", 3, laid(put(api.Mac, mac, hop)))
}

func TestP11FaultsOfFrames(t *testing.T) {
	r := started(t, 32, plenty)
	r.jumps(5, put(api.Mac, mac, hop))
	good := change(t, 6, put(api.Mac, mac, hop))
	for n := range 5 {
		r.idle("a short frame", good[:n], "E1 R5")
	}
	for n := 5; n < len(good); n++ {
		r.idle("a frame cut off", good[:n], "E3 R5")
	}
	r.idle("a frame with more behind", good+"\x00", "E3 R5")
	for kind := range 256 {
		if kind < api.FrameDelta || kind > api.FramePiece {
			r.idle("kind "+strconv.Itoa(kind), sealed(byte(kind), ""), "E6 R5")
			r.idle("kind "+strconv.Itoa(kind)+", with a body", sealed(byte(kind), good), "E6 R5")
		}
	}
	r.idle("an ask", ask(), "R5")
	for _, body := range []string{"\x00", "a", eight(5), strings.Repeat("a", 1000)} {
		r.idle("an ask with a body", sealed(api.FrameAsk, body), "E2 R5")
	}
	r.stands("behind all of it", 5, laid(put(api.Mac, mac, hop)))
	r.sends("what was good", good, "A6")
}

func TestP11FaultsOfDeltas(t *testing.T) {
	r := started(t, 32, plenty)
	for _, body := range []string{
		"", one[:7], one[:41], one + "?", with(one, 7, "\x00"), strings.Repeat("\xff", 8), with(one, 8, "\x00"), with(one, 8, "\x09"),
		with(one, 9, "\x03"), with(one, 10, "\x03"), with(one, 11, "\x03"), with(one, 31, "\x0f"), with(one, 39, "\x05"),
		with(one, 17, "\x00\x00\x00\x00"), with(one, 40, "\x07"), with(one, 41, "\x02"), strings.Repeat("a", 1000),
	} {
		_, err := overlay.Decode([]byte(body))
		kind := faultOf(t, err).Kind
		r.idle("a delta that may not be", sealed(api.FrameDelta, body), "E"+strconv.Itoa(int(kind))+" R0")
	}
	r.sends("one that may be", sealed(api.FrameDelta, one), "A1")
}

func TestP11VersionsOfDeltas(t *testing.T) {
	some := put(api.Acl, rule, "\x00\x01")
	for _, v := range []uint64{1, 2, 255, 256, 1<<32 - 1, 1 << 32, 1 << 63, greatest - 2, greatest - 1} {
		r := started(t, 32, plenty)
		r.jumps(v, put(api.Mac, mac, hop))
		now := strconv.FormatUint(v, 10)
		for _, old := range []uint64{1, v/2 + 1, v - 1, v} {
			if old > 0 {
				r.idle("not above", change(t, old, some), "A"+now)
			}
		}
		for _, later := range []uint64{v + 2, v + 3, v + 256, v + 1<<32, greatest} {
			if later > v+1 && later <= greatest {
				r.idle("more than one above", change(t, later, some), "R"+now)
			}
		}
		r.sends("one above", change(t, v+1, some), "A"+strconv.FormatUint(v+1, 10))
		r.stands("one above", v+1, laid(put(api.Mac, mac, hop), some))
	}
	r := started(t, 32, plenty)
	r.idle("of a new agent, more than one above", change(t, 2, some), "R0")
	r.jumps(greatest)
	for _, v := range []uint64{1, greatest - 1, greatest} {
		r.idle("of the greatest, not above", change(t, v, some), "A"+strconv.FormatUint(greatest, 10))
	}
}

func TestP11DeltasAreTakenIn(t *testing.T) {
	r := started(t, 32, plenty)
	other := "\x02\x00\x00\x00\x00\x02"
	r.sends("puts", change(t, 1, put(api.Acl, rule, "\x06\x01"), put(api.Route, route, hop), put(api.Mac, mac, hop)), "A1")
	r.stands("puts", 1, laid(put(api.Mac, mac, hop), put(api.Route, route, hop), put(api.Acl, rule, "\x06\x01")))
	r.did("puts", put(api.Mac, mac, hop), put(api.Route, route, hop), put(api.Acl, rule, "\x06\x01"))
	r.sends("a drop, a put, another value", change(t, 2, put(api.Mac, other, hop), drop(api.Route, route), put(api.Acl, rule, "\x06\x00")), "A2")
	r.stands("a drop, a put, another value", 2, laid(put(api.Mac, mac, hop), put(api.Mac, other, hop), put(api.Acl, rule, "\x06\x00")))
	r.did("a drop, a put, another value", drop(api.Route, route), put(api.Mac, other, hop), put(api.Acl, rule, "\x06\x00"))
	r.sends("nothing that changes anything", change(t, 3, put(api.Mac, mac, hop), drop(api.Route, route)), "A3")
	r.did("nothing that changes anything")
	if v, ok := r.a.Mac(other); v != hop || !ok {
		t.Errorf("Mac: %q, %v", v, ok)
	}
	if v, ok := r.a.Acl(6); v != 0 || !ok {
		t.Errorf("Acl: %d, %v", v, ok)
	}
	if v, ok := r.a.Route("\x0a\x01\x00\x00"); v != "" || ok {
		t.Errorf("Route: %q, %v", v, ok)
	}
}

func TestP11TheDatapathIsBroughtToTheTables(t *testing.T) {
	r := started(t, 32, plenty)
	r.sends("a put", change(t, 1, put(api.Mac, mac, hop), put(api.Route, route, hop)), "A1")
	r.p.entries = []entry{{api.Key{Table: api.Acl, Bytes: rule}, "\x00\x00"}, {api.Key{Table: api.Mac, Bytes: mac}, "\x09\x09\x09\x09"}}
	r.p.done = nil
	for _, frame := range []string{ask(), "", change(t, 1, drop(api.Mac, mac)), change(t, 3, drop(api.Mac, mac))} {
		r.a.Receive([]byte(frame))
	}
	r.a.Tick()
	r.did("what is not taken in")
	r.waiting()
	r.sends("what is taken in", change(t, 2, drop(api.Acl, "\xff\xff")), "A2")
	r.did("what is taken in", drop(api.Acl, rule), put(api.Mac, mac, hop), put(api.Route, route, hop))
	r.stands("what is taken in", 2, laid(put(api.Mac, mac, hop), put(api.Route, route, hop)))
}

func TestP11OfTheDiskNothingIsAsked(t *testing.T) {
	r := started(t, 32, plenty)
	r.sends("a delta", change(t, 1, put(api.Mac, mac, hop)), "A1")
	asked := r.d.asked
	r.ticks("Tick", "R1")
	r.idle("a state begins", begin(9, 2), "W0")
	r.idle("a piece", piece(0, state[:9]), "W1")
	r.ticks("Tick", "W1")
	r.idle("a state that may not be", piece(1, "?"), "E1 R1")
	r.a.Degraded()
	r.stands("asked", 1, laid(put(api.Mac, mac, hop)))
	if r.d.asked != asked {
		t.Errorf("the disk was asked %d times", r.d.asked-asked)
	}
}

func TestP2AgentsKeepAndWriteNothing(t *testing.T) {
	r := started(t, 32, plenty)
	hands := func(frame, want string) {
		t.Helper()
		long := []byte(frame + "behind")
		b := long[:len(frame)]
		r.a.Receive(b)
		if string(long) != frame+"behind" {
			t.Errorf("a frame was written into: %q", long)
		}
		clear(long)
		r.tells("a frame", want)
	}
	hands(change(t, 1, put(api.Mac, mac, hop), put(api.Route, route, hop)), "A1")
	r.stands("a delta", 1, laid(put(api.Mac, mac, hop), put(api.Route, route, hop)))
	hands(begin(7, 2), "W0")
	hands(piece(0, state[:30]), "W1")
	hands(piece(1, state[30:]), "A7")
	r.stands("a state", 7, stateEntries())
	r.a.Tick()
	r.a.Tick()
	first, _ := r.a.Next()
	clear(first[:cap(first)])
	r.tells("behind a frame that is written over", "R7")
}

func TestP2EntriesOfAnAgentAreThoseOfTheCall(t *testing.T) {
	r := started(t, 32, plenty)
	r.sends("a delta", change(t, 1, rules(api.MaxOps)...), "A1")
	all := r.a.Entries()
	v := uint64(1)
	for k := range all {
		v++
		r.sends("another", change(t, v, drop(k.Table, k.Bytes)), "A"+strconv.FormatUint(v, 10))
	}
	if !slices.Equal(told(all), laid(rules(api.MaxOps)...)) {
		t.Errorf("changes that are made meanwhile are told: %x", told(all))
	}
	r.stands("all dropped", v, nil)
}
