package overlay_test

import (
	"slices"
	"strconv"
	"strings"
	"testing"

	"overlay/api"
	"overlay/overlay"
)

func TestP12FaultsOfBegin(t *testing.T) {
	r := started(t, 32, plenty)
	r.jumps(5, put(api.Mac, mac, hop))
	good := eight(9) + "\x02"
	wrong := func(comes string) {
		t.Helper()
		for n := range good {
			r.idle("a short begin", sealed(api.FrameBegin, good[:n]), "E1 R5")
			r.idle("a short begin of noughts", sealed(api.FrameBegin, strings.Repeat("\x00", n)), "E1 R5")
		}
		for _, more := range []string{"\x00", "a", strings.Repeat("a", 1000)} {
			r.idle("a long begin", sealed(api.FrameBegin, good+more), "E2 R5")
			r.idle("a long begin of noughts", sealed(api.FrameBegin, strings.Repeat("\x00", 9)+more), "E2 R5")
		}
		for n := range 256 {
			r.idle("version 0", begin(0, byte(n)), "E4 R5")
			r.idle("version 2^64 - 1", begin(greatest+1, byte(n)), "E4 R5")
			if n < 1 || n > api.MaxPieces {
				r.idle("so many pieces", begin(9, byte(n)), "E5 R5")
				r.idle("so many pieces, not above", begin(5, byte(n)), "E5 R5")
				continue
			}
			for v := range uint64(5) {
				r.idle("not above", begin(v+1, byte(n)), "A5")
			}
		}
		r.ticks("behind all of it", comes)
	}
	wrong("R5")
	r.idle("a begin", sealed(api.FrameBegin, good), "W0")
	wrong("W0")
	r.idle("a piece", piece(0, "a"), "W1")
	wrong("W1")
}

func TestP12BeginOfEachNumberOfPieces(t *testing.T) {
	r := started(t, 32, plenty)
	v := uint64(0)
	for n := 1; n <= api.MaxPieces; n++ {
		v += uint64(n)
		text := stateText(t, v, put(api.Mac, mac, hop))
		r.idle("a begin", begin(v, byte(n)), "W0")
		for i := range n - 1 {
			r.idle("a piece", piece(byte(i), text[i:i+1]), "W"+strconv.Itoa(i+1))
			r.ticks("behind it", "W"+strconv.Itoa(i+1))
		}
		r.sends("the last piece", piece(byte(n-1), text[n-1:]), "A"+strconv.FormatUint(v, 10))
		r.stands("a state", v, laid(put(api.Mac, mac, hop)))
		r.ticks("behind it", "R"+strconv.FormatUint(v, 10))
	}
}

func TestP12WhateverCameAheadComesNoMore(t *testing.T) {
	r := started(t, 32, plenty)
	text := stateText(t, 8, put(api.Mac, mac, hop))
	r.idle("a state begins", begin(7, 3), "W0")
	r.idle("a piece", piece(0, state[:20]), "W1")
	r.idle("another begins", begin(8, 2), "W0")
	r.ticks("Tick", "W0")
	r.idle("a piece of the first", piece(1, state[20:]), "W0")
	r.idle("a piece", piece(0, text[:15]), "W1")
	r.idle("the same begins again", begin(8, 2), "W0")
	r.idle("a piece", piece(0, text[:10]), "W1")
	r.sends("the last piece", piece(1, text[10:]), "A8")
	r.stands("the other state", 8, laid(put(api.Mac, mac, hop)))
	r.idle("an earlier one begins behind a later one", begin(99, 1), "W0")
	r.idle("an earlier one begins behind a later one", begin(9, 1), "W0")
	r.sends("the earlier one", piece(0, eight(9)+"\x00\x00"), "A9")
	r.stands("the earlier one", 9, nil)
}

func TestP12FaultsOfPieces(t *testing.T) {
	r := started(t, 32, plenty)
	wrong := func(next byte, comes string) {
		t.Helper()
		r.idle("no number", sealed(api.FramePiece, ""), "E1 R0")
		for _, n := range []byte{0, 1, 2, 16, 255, next} {
			r.idle("a piece of nothing", piece(n, ""), "E1 R0")
			r.idle("a piece that is too long", piece(n, strings.Repeat("\x00", api.MaxPiece+1)), "E2 R0")
			r.idle("a piece that is far too long", piece(n, strings.Repeat("a", 1000)), "E2 R0")
		}
		r.ticks("behind all of it", comes)
	}
	wrong(0, "R0")
	for n := range 256 {
		r.idle("no state comes", piece(byte(n), "a"), "R0")
		r.idle("no state comes", piece(byte(n), strings.Repeat("a", api.MaxPiece)), "R0")
	}
	r.idle("a begin", begin(7, 2), "W0")
	wrong(0, "W0")
	for n := 1; n < 256; n++ {
		r.idle("not the piece to come", piece(byte(n), state[30:]), "W0")
	}
	r.idle("the piece to come", piece(0, state[:30]), "W1")
	wrong(1, "W1")
	for n := range 256 {
		if n != 1 {
			r.idle("not the piece to come", piece(byte(n), state[30:]), "W1")
		}
	}
	r.sends("the last one", piece(1, state[30:]), "A7")
	r.stands("none of the others was kept", 7, stateEntries())
}

func TestP12AStateCutAtEachPlace(t *testing.T) {
	for at := 1; at < len(state); at++ {
		r := started(t, 32, plenty)
		r.idle("a begin", begin(7, 2), "W0")
		r.idle("piece 0", piece(0, state[:at]), "W1")
		r.sends("piece 1", piece(1, state[at:]), "A7")
		r.stands("a state", 7, stateEntries())
		r.idle("piece 1 again", piece(1, state[at:]), "R7")
		r.idle("piece 0 again", piece(0, state[:at]), "R7")
		r.idle("a begin again", begin(7, 2), "A7")
	}
}

func TestP12AStateAsLongAsMayBe(t *testing.T) {
	r := started(t, api.MaxSectors, plenty)
	all := append(many(api.Mac, 4), many(api.Route, 97)...)
	if len(stateText(t, 3, all...)) != api.MaxPieces*api.MaxPiece {
		t.Fatal("it is shorter or longer")
	}
	r.jumps(3, all...)
	r.did("all of it", all...)
}

func TestP12TheDatapathIsBroughtToTheState(t *testing.T) {
	r := started(t, 32, plenty)
	r.sends("a delta", change(t, 1, put(api.Mac, mac, hop), put(api.Acl, "\x00\x00", "\x00\x00"), put(api.Route, route, "\x09\x09\x09\x09")), "A1")
	r.did("a delta", put(api.Mac, mac, hop), put(api.Route, route, "\x09\x09\x09\x09"), put(api.Acl, "\x00\x00", "\x00\x00"))
	r.jumps(7, put(api.Mac, mac, hop), put(api.Mac, "\x02\x00\x00\x00\x00\x02", hop), put(api.Route, route, hop))
	r.did("a state", drop(api.Acl, "\x00\x00"), put(api.Mac, "\x02\x00\x00\x00\x00\x02", hop), put(api.Route, route, hop))
	r.jumps(8, put(api.Mac, mac, hop), put(api.Mac, "\x02\x00\x00\x00\x00\x02", hop), put(api.Route, route, hop))
	r.did("the same entries")
	r.jumps(greatest)
	r.did("no entries", drop(api.Mac, mac), drop(api.Mac, "\x02\x00\x00\x00\x00\x02"), drop(api.Route, route))
}

// pieced: how a state's bytes, begun with that version, in two pieces, are answered; is nothing done, and does no state come any more?
func pieced(r *rig, what string, version uint64, text, want string) {
	r.t.Helper()
	r.idle(what+", begin", begin(version, 2), "W0")
	r.idle(what+", piece 0", piece(0, text[:len(text)/2]), "W1")
	r.idle(what, piece(1, text[len(text)/2:]), want)
	now := "R" + strconv.FormatUint(r.a.Version(), 10)
	r.ticks(what+", Tick", now)
	r.idle(what+", piece 1 again", piece(1, text[len(text)/2:]), now)
	r.idle(what+", piece 0 again", piece(0, text[:len(text)/2]), now)
}

func TestP12FaultsOfStates(t *testing.T) {
	r := started(t, 32, plenty)
	r.jumps(5, put(api.Mac, mac, hop))
	for _, text := range []string{
		state[:5], state[:8], state[:61], state + "?", with(state, 7, "\x00"), strings.Repeat("\xff", 10), with(state, 8, "\xff\xff"), with(state, 9, "\x05"),
		with(state, 10, "\x03"), with(state, 11, "\x01"), with(state, 27, "\x01"), with(state, 28, "\x00\x00\x00\x00"), with(state, 61, "\x02"), state + state,
	} {
		_, _, err := overlay.DecodeAll([]byte(text))
		kind := faultOf(t, err).Kind
		for _, v := range []uint64{6, 7, 8, greatest} { // what DecodeAll tells comes first
			pieced(r, "a state that may not be", v, text, "E"+strconv.Itoa(int(kind))+" R5")
		}
	}
	for _, v := range []uint64{6, 8, 7 + 256, 7 + 1<<56, greatest} {
		pieced(r, "another version", v, state, "E4 R5")
	}
	pieced(r, "another version, which is the agent's", 6, stateText(t, 5), "E4 R5")
	pieced(r, "another version, which is old", 6, stateText(t, 1), "E4 R5")
	r.stands("behind all of it", 5, laid(put(api.Mac, mac, hop)))
	r.jumps(7, put(api.Acl, rule, "\x00\x00"))
}

func TestP12DeltasAreTakenInWhileAStateComes(t *testing.T) {
	for last := range uint64(10) { // the version that deltas have brought when the last piece comes
		r := started(t, 32, plenty)
		var want []entry
		r.idle("a begin", begin(7, 2), "W0")
		for v := uint64(1); v <= last; v++ {
			some := put(api.Mac, "\x0a\x00\x00\x00\x00"+string([]byte{byte(v)}), hop)
			want = append(want, laid(some)...)
			r.sends("a delta", change(t, v, some), "A"+strconv.FormatUint(v, 10))
			r.stands("a delta", v, want)
			if v == 4 {
				r.idle("piece 0", piece(0, state[:30]), "W1")
			}
			r.ticks("Tick", "W"+strconv.FormatUint(v/4-v/8, 10))
			r.idle("an ask", ask(), "R"+strconv.FormatUint(v, 10))
		}
		if last < 4 {
			r.idle("piece 0", piece(0, state[:30]), "W1")
		}
		if last < 7 {
			r.sends("piece 1", piece(1, state[30:]), "A7")
			r.stands("a state", 7, stateEntries())
			continue
		}
		r.idle("piece 1, too late", piece(1, state[30:]), "A"+strconv.FormatUint(last, 10))
		r.stands("deltas", last, want)
		r.ticks("no state comes", "R"+strconv.FormatUint(last, 10))
	}
}

func TestP12AStateThatIsOldAndMayNotBe(t *testing.T) {
	r := started(t, 32, plenty)
	for _, text := range []string{state[:61], state + "?"} {
		r.idle("a begin", begin(r.a.Version()+1, 1), "W0")
		r.sends("a delta", change(t, r.a.Version()+1, put(api.Mac, mac, hop)), "A"+strconv.FormatUint(r.a.Version()+1, 10))
		_, _, err := overlay.DecodeAll([]byte(text))
		r.idle("a fault, and old", piece(0, text), "E"+strconv.Itoa(int(faultOf(t, err).Kind))+" R"+strconv.FormatUint(r.a.Version(), 10))
	}
	r.idle("a begin", begin(3, 1), "W0")
	r.sends("a delta", change(t, 3, put(api.Mac, mac, hop)), "A3")
	r.idle("another version, and old", piece(0, eight(2)+"\x00\x00"), "E4 R3")
	r.idle("a begin", begin(4, 1), "W0")
	r.sends("a delta", change(t, 4, put(api.Mac, mac, hop)), "A4")
	r.idle("old", piece(0, eight(4)+"\x00\x00"), "A4")
}

func TestP12DeltasBehindAState(t *testing.T) {
	r := started(t, 32, plenty)
	all := stateOps()
	slices.Reverse(all)
	r.jumps(7, all...)
	r.idle("one that was on its way", change(t, 1, drop(api.Mac, mac)), "A7")
	r.sends("the next", change(t, 8, drop(api.Mac, mac), put(api.Acl, rule, "\x00\x00")), "A8")
	want := stateEntries()[1:]
	want[3].value = "\x00\x00"
	r.stands("the next", 8, want)
}
