package overlay_test

import (
	"errors"
	"slices"
	"strconv"
	"testing"

	"overlay/api"
	"overlay/overlay"
)

// everyFrame: frames of each kind to an agent of that version: such as it takes in, or answers, or finds a fault with, if it is not degraded.
func everyFrame(t *testing.T, version uint64) []string {
	t.Helper()
	return []string{
		"", "?", ask(), sealed(99, ""), sealed(api.FrameAsk, "a"), sealed(api.FrameDelta, ""),
		change(t, version+1, drop(api.Mac, mac)), change(t, version+2, drop(api.Mac, mac)), change(t, max(version, 1), drop(api.Mac, mac)),
		begin(version+1, 1), piece(0, eight(version+1)+"\x00\x00"), begin(0, 0), piece(0, ""),
	}
}

// degraded: is the agent degraded for that, does it say so of every frame and Tick, does it do nothing else, and tell its version and these entries?
func (r *rig) degraded(what string, kind api.Errno, at int, version uint64, want []entry) {
	r.t.Helper()
	r.takesNothing(what, version, want, func() { r.t.Helper(); expect(r.t, what, r.a.Degraded(), kind, at) })
}

// takesNothing: does an agent that is degraded say so of every frame and Tick, do nothing else, and tell its version, these entries, and why?
func (r *rig) takesNothing(what string, version uint64, want []entry, tellsWhy func()) {
	r.t.Helper()
	r.p.done = nil
	for _, frame := range everyFrame(r.t, version) {
		r.idle(what+": a frame", frame, "E13")
		r.ticks(what+": Tick", "E13")
		tellsWhy()
	}
	if r.a.Version() != version {
		r.t.Errorf("%s: version %d, want %d", what, r.a.Version(), version)
	}
	hold(r.t, what, r.a, want)
	r.p.holds(what, want, nil)
}

// refuses: is a frame answered by a fault alone, without anything being asked of the datapath, and the agent degraded then?
func (r *rig) refuses(what, frame string, kind api.Errno, at int) {
	r.t.Helper()
	version, want := r.a.Version(), told(r.a.Entries())
	r.p.done = nil
	r.sends(what, frame, "E"+strconv.Itoa(int(kind)))
	r.did(what)
	r.degraded(what, kind, at, version, want)
}

func TestP13Full(t *testing.T) {
	for table := range api.Tables {
		for room := range 3 {
			rooms := [api.Tables]int{9, 9, 9}
			rooms[table] = room
			all := many(table, room+1)
			r, s := started(t, 32, rooms), started(t, 32, rooms)
			if room > 0 {
				r.sends("as many as there is room for", change(t, 1, all[1:]...), "A1")
				r.stands("as many as there is room for", 1, laid(all[1:]...))
				s.jumps(5, all[1:]...)
			}
			v := r.a.Version()
			r.refuses("a delta, one more", change(t, v+1, all[0]), api.ErrFull, table)
			s.refuses("a state, one more", s.arrives(9, all...), api.ErrFull, table)
		}
	}
}

func TestP13FullTellsTheFirstTable(t *testing.T) {
	for code := range 8 {
		n := [api.Tables]int{code % 2, code / 2 % 2, code / 4}
		all := slices.Concat(many(api.Mac, n[0]), many(api.Route, n[1]), many(api.Acl, n[2]))
		slices.Reverse(all)
		r := started(t, 32, [api.Tables]int{})
		if len(all) > 0 {
			r.refuses("no room", change(t, 1, all...), api.ErrFull, slices.Index(n[:], 1))
		}
	}
}

func TestP13WhatWouldBeCounts(t *testing.T) {
	r := started(t, 32, [api.Tables]int{1, 1, 1})
	other := "\x02\x00\x00\x00\x00\x02"
	r.sends("a put", change(t, 1, put(api.Mac, mac, hop)), "A1")
	r.sends("another value", change(t, 2, put(api.Mac, mac, "\x09\x09\x09\x09")), "A2")
	r.sends("another in its place, which comes first", change(t, 3, put(api.Mac, other, hop), drop(api.Mac, mac)), "A3")
	r.stands("another in its place", 3, laid(put(api.Mac, other, hop)))
	r.jumps(4, put(api.Mac, mac, hop), put(api.Acl, rule, "\x00\x01"))
	r.sends("a drop of none", change(t, 5, drop(api.Mac, other)), "A5")
	r.refuses("one more", change(t, 6, drop(api.Acl, rule), put(api.Mac, other, hop)), api.ErrFull, api.Mac)
}

func TestP13WhatIsNotToBeTakenInDegradesNothing(t *testing.T) {
	r := started(t, 32, [api.Tables]int{})
	r.jumps(5)
	some := put(api.Mac, mac, hop)
	r.idle("not above", change(t, 5, some), "A5")
	r.idle("more than one above", change(t, 7, some), "R5")
	r.idle("a delta that may not be", change(t, 6, some)+"?", "E3 R5")
	last := r.arrives(6, some)
	r.sends("meanwhile", change(t, 6, drop(api.Mac, mac)), "A6")
	r.idle("a state that is old", last, "A6")
	r.idle("a begin", begin(9, 1), "W0")
	r.idle("a state of another version", piece(0, stateText(t, 8, some)), "E4 R6")
	r.stands("behind all of it", 6, nil)
}

func TestP13TheExample(t *testing.T) {
	r := started(t, 32, plenty)
	all := many(api.Mac, 35)
	for i, op := range all[:34] {
		r.sends("one more", change(t, uint64(i)+1, op), "A"+strconv.Itoa(i+1))
	}
	r.stands("34 of them", 34, laid(all[:34]...))
	r.refuses("a 35th", change(t, 35, all[34]), api.ErrRoom, 0)
}

// filling: entries whose Size is that: rules, and as many endpoints and routes as bring it there.
func filling(size int) []api.Op {
	macs := size % 5
	routes := (size - 11*macs) / 10 / 2
	return slices.Concat(many(api.Mac, macs), many(api.Route, routes), many(api.Acl, (size-11*macs-10*routes)/5))
}

// lay: deltas lay entries, from the agent's version on.
func (r *rig) lay(all []api.Op) {
	r.t.Helper()
	for ops := range slices.Chunk(all, api.MaxOps) {
		v := r.a.Version() + 1
		r.sends("a delta", change(r.t, v, ops...), "A"+strconv.FormatUint(v, 10))
	}
}

func TestP13Room(t *testing.T) {
	for sectors := api.MinSectors; sectors <= api.MaxSectors; sectors++ {
		most := 16 * (sectors - 8)
		all := filling(most)
		if size := tablesOf(t, all...).Size(); size != most {
			t.Fatalf("Size %d, want %d", size, most)
		}
		r := started(t, sectors, plenty)
		r.lay(all)
		r.stands("as much as may be", r.a.Version(), laid(all...))
		first := all[0]
		r.lay([]api.Op{put(first.Key.Table, first.Key.Bytes, first.Value)})
		more := put(api.Acl, "\xff\xff", "\x00\x00")
		v := r.a.Version() + 1
		r.sends("another in its place", change(t, v, more, drop(api.Acl, "\x00\x00")), "A"+strconv.FormatUint(v, 10))
		r.refuses("more than may be", change(t, v+1, put(api.Acl, "\x00\x00", "\x00\x00")), api.ErrRoom, 0)
		over := filling(most + 1)
		r = started(t, sectors, plenty)
		rest := slices.DeleteFunc(slices.Clone(over), func(op api.Op) bool { return op == over[0] })
		r.lay(rest)
		r.refuses("one more than may be", change(t, r.a.Version()+1, over[0]), api.ErrRoom, 0)
	}
}

func TestP13RoomForStates(t *testing.T) {
	for _, sectors := range []int{32, 33, 50, 71} { // a state of more could not come
		most := 16 * (sectors - 8)
		r := started(t, sectors, plenty)
		r.jumps(3, filling(most)...)
		r.jumps(5, many(api.Mac, 1)...)
		r.refuses("one more than may be", r.arrives(9, filling(most+1)...), api.ErrRoom, 0)
	}
}

func TestP13FullComesAheadOfRoom(t *testing.T) {
	all := filling(16*(32-8) + 1)
	r := started(t, 32, [api.Tables]int{99, 99, 1})
	r.refuses("full, and no room", r.arrives(1, all...), api.ErrFull, api.Acl)
	r = started(t, 32, [api.Tables]int{99, 99, 99})
	r.refuses("no room", r.arrives(1, all...), api.ErrRoom, 0)
}

func TestP13DegradedWhileAStateComes(t *testing.T) {
	r := started(t, 32, [api.Tables]int{1, 0, 0})
	last := r.arrives(9, put(api.Mac, mac, hop))
	r.refuses("a delta", change(t, 1, put(api.Acl, rule, "\x00\x00")), api.ErrFull, api.Acl)
	r.idle("the last piece", last, "E13")
	r.degraded("the last piece", api.ErrFull, api.Acl, 0, nil)
}

func TestP13WhatWaitedComesOut(t *testing.T) {
	r := started(t, 32, [api.Tables]int{})
	for range 4 {
		r.a.Tick()
	}
	r.a.Receive([]byte(change(t, 1, put(api.Mac, mac, hop))))
	r.a.Receive(nil)
	r.a.Tick()
	r.tells("frames that waited", "R0 R0 R0 R0 E10 E13")
	r.degraded("behind them", api.ErrFull, api.Mac, 0, nil)
	r = started(t, 32, [api.Tables]int{})
	for range api.MaxOut {
		r.a.Tick()
	}
	r.a.Receive([]byte(change(t, 1, put(api.Route, route, hop))))
	r.tells("a fault that is lost", "R0 R0 R0 R0 R0 R0")
	r.degraded("a fault that is lost", api.ErrFull, api.Route, 0, nil)
}

func TestP2DegradedTellsACopy(t *testing.T) {
	r := started(t, 32, [api.Tables]int{})
	r.sends("a delta", change(t, 1, put(api.Acl, rule, "\x00\x00")), "E10")
	var f *api.Fault
	if !errors.As(r.a.Degraded(), &f) {
		t.Fatal("no Fault")
	}
	*f = api.Fault{}
	r.degraded("behind an error that is written over", api.ErrFull, api.Acl, 0, nil)
}

func TestP13ADegradedAgentCanBeAsked(t *testing.T) {
	r := started(t, 32, [api.Tables]int{1, 1, 1})
	r.sends("a delta", change(t, 1, put(api.Mac, mac, hop), put(api.Route, route, hop), put(api.Acl, rule, "\x06\x01")), "A1")
	r.refuses("one more", change(t, 2, put(api.Acl, "\x00\x00", "\x00\x00")), api.ErrFull, api.Acl)
	v, ok := r.a.Mac(mac)
	found(t, "Mac", mac, v, ok, hop)
	v, ok = r.a.Route("\x0a\x01\x00\x00")
	found(t, "Route", "10.1", v, ok, hop)
	if n, ok := r.a.Acl(6); n != 1 || !ok {
		t.Errorf("Acl(6) = %d, %v", n, ok)
	}
	var _ holder = r.a
	var _ holder = overlay.NewTables()
}
