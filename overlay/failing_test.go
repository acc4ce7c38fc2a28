package overlay_test

import (
	"errors"
	"fmt"
	"maps"
	"reflect"
	"slices"
	"strconv"
	"testing"

	"overlay/api"
	"overlay/overlay"
)

// diskFailed: is an error ErrDisk, with the disk's own as its cause, and of no kind that is of neither?
func diskFailed(t *testing.T, what string, err, own error) {
	t.Helper()
	f, ok := err.(*api.Fault)
	if !ok || f.Kind != api.ErrDisk || f.At != 0 || !same(f.Cause, own) {
		t.Fatalf("%s: %v, want that the disk failed: %v", what, err, own)
	}
	for k := api.OK; k <= api.ErrOrder; k++ {
		if errors.Is(err, k) != (k == api.ErrDisk || errors.Is(own, k)) {
			t.Errorf("%s: errors.Is of %v: %v", what, k, errors.Is(err, k))
		}
	}
}

// same: are these one error, and not just alike?
func same(a, b error) bool {
	if a == nil || b == nil || reflect.TypeOf(a) != reflect.TypeOf(b) {
		return false
	}
	if !reflect.TypeOf(a).Comparable() {
		return reflect.DeepEqual(a, b)
	}
	return a == b
}

// tries: the agent that Start gives; nil, if the disk fails: does Start tell that then, and do nothing?
func (h *host) tries(what string) *overlay.Agent {
	h.t.Helper()
	h.failed = nil
	entries, writes := maps.Clone(h.entries), h.writes
	a, err := overlay.Start(lateDisk{h}, latePath{h})
	if h.failed == nil {
		if a == nil || err != nil {
			h.t.Fatalf("%s: %v, %v, but the disk has not failed", what, a, err)
		}
		return a
	}
	if a != nil {
		h.t.Errorf("%s: an agent, and %v", what, err)
	}
	diskFailed(h.t, what, err, h.failed)
	if !maps.Equal(h.entries, entries) || h.writes != writes {
		h.t.Errorf("%s: something was done", what)
	}
	return nil
}

// failsInStart: the disk fails in Start, at each call: is one of some steps found by the Start behind it? How often it failed.
func (h *host) failsInStart(what string, s *story, first, last int) int {
	h.t.Helper()
	for calls := 0; ; calls++ {
		g := h.twin()
		g.fails = calls
		what := what + ", the disk fails at call " + strconv.Itoa(calls) + " of Start"
		if g.tries(what) != nil {
			return calls
		}
		g.twin().goesOn().keepsWhatIsFound(what, s, first, last)
		for _, x := range g.fewChoices() {
			x.finds(what+", and its power is lost", s, first, last)
		}
	}
}

// failsAt: an agent is told a step of a story: if the disk fails, is the agent degraded, and stays where it was? false: the disk does not fail.
func (s *story) failsAt(n int, a *overlay.Agent, h *host) bool {
	s.t.Helper()
	h.failed = nil
	answer := s.steps[n].takes(s.t, a)
	what := "version " + strconv.FormatUint(s.steps[n].version, 10)
	if h.failed == nil {
		h.standsAt(what, a, s.steps[n])
		return false
	}
	if answer != "E12" {
		s.t.Errorf("%s: the disk fails: %s", what, answer)
	}
	h.takesNothing(what, a, s.steps[n-1], s.steps[n].frames)
	return true
}

// takesNothing: is an agent degraded, because the disk has failed, so that it stays where it was, and asks nothing of disk and datapath, whatever comes?
func (h *host) takesNothing(what string, a *overlay.Agent, was step, more []string) {
	h.t.Helper()
	asked, late := h.asked, len(h.late)
	r := &rig{t: h.t, a: a}
	for _, frame := range append(everyFrame(h.t, was.version), more...) {
		r.sends(what+": a frame", frame, "E13")
		r.ticks(what+": Tick", "E13")
		diskFailed(h.t, what, a.Degraded(), h.failed)
	}
	if a.Version() != was.version || !slices.Equal(told(a.Entries()), was.after) || !slices.Equal(sorted(h.entries), was.after) {
		h.t.Errorf("%s: degraded: version %d, %x, the datapath has %x", what, a.Version(), told(a.Entries()), sorted(h.entries))
	}
	if h.asked != asked || len(h.late) != late {
		h.t.Errorf("%s: degraded, and the disk was asked", what)
	}
}

// fails: an agent is told a story, until the disk fails: the step at which that is (0: it does not).
func (s *story) fails(a *overlay.Agent, h *host) int {
	s.t.Helper()
	for n := 1; n < len(s.steps); n++ {
		if s.failsAt(n, a, h) {
			return n
		}
	}
	return 0
}

func TestP13P14TheDiskFails(t *testing.T) {
	s := long(t)
	calls := 0
	for ; ; calls++ {
		h := hostOf(t, api.MinSectors)
		a := h.starts()
		h.fails = calls
		n := s.fails(a, h)
		if n == 0 {
			break
		}
		what := "the disk fails at call " + strconv.Itoa(calls)
		for choice, g := range h.choices() {
			g.finds(what+", choice "+strconv.Itoa(choice), s, n-1, n)
		}
		for choice, g := range h.fewChoices() {
			g.goesOnBehind(what+", choice "+strconv.Itoa(choice), s, n-1, n)
		}
		h.twin().goesOn().keepsWhatIsFound(what, s, n-1, n)
		h.twin().goesOn().goesOnBehind(what+", and the disk goes on", s, n-1, n)
		h.twin().goesOn().failsInStart(what, s, n-1, n)
		if t.Failed() {
			t.Fatal(what)
		}
	}
	if calls < 4*len(s.steps) {
		t.Errorf("the test tries too little: %d failures", calls)
	}
}

// goesOnBehind: an agent is started behind a failure, and finds one of some steps: do Starts that stop or fail find the same, and does it go on by what was told ahead of the failure, and another way?
func (h *host) goesOnBehind(what string, s *story, first, last int) {
	h.t.Helper()
	found := h.finds(what, s, first, last)
	h.stopsInStart(what, s, found, found)
	h.failsInStart(what, s, found, found)
	h.takesAnotherWay(what, s.steps[found])
	a := h.starts()
	for n := found + 1; n < min(found+4, len(s.steps)); n++ {
		s.steps[n].takenBy(h.t, a)
		h.standsAt(what+", and on", a, s.steps[n])
		h.twin().losesPower(0).finds(what+", and on", s, n, n)
	}
}

func TestP13P14AFullDiskFails(t *testing.T) {
	for _, sectors := range []int{api.MinSectors, 47, api.MaxSectors} {
		h, s := hostOf(t, sectors), full(t, sectors)
		for range 12 {
			s.delta(changesOf(s.last())...)
		}
		a := h.starts()
		for n := 1; n < len(s.steps); n++ {
			for calls := 0; n > len(s.steps)-20; calls++ { // ahead of these it is not full
				g := h.twin()
				b := g.starts()
				g.fails = calls
				if !s.failsAt(n, b, g) {
					break
				}
				what := strconv.Itoa(sectors) + " sectors, step " + strconv.Itoa(n) + ", call " + strconv.Itoa(calls)
				g.twin().goesOn().keepsWhatIsFound(what, s, n-1, n)
				for choice, x := range g.choices() {
					x.finds(what+", choice "+strconv.Itoa(choice), s, n-1, n)
				}
			}
			s.steps[n].takenBy(t, a)
		}
		last := len(s.steps) - 1
		h.failsInStart("a full disk", s, last, last)
	}
}

func TestP10TheDiskFailsInStart(t *testing.T) {
	h, s := hostOf(t, api.MinSectors), long(t)
	a := h.starts()
	failures := h.failsInStart("noughts", s, 0, 0)
	for n := 1; n < len(s.steps); n++ {
		behind := h.twin() // its datapath stays where it was
		s.steps[n].takenBy(t, a)
		failures += h.failsInStart("step "+strconv.Itoa(n), s, n, n)
		behind.held, behind.seen = h.held, h.seen
		behind.failsInStart("step "+strconv.Itoa(n)+", and the datapath is one behind", s, n, n)
	}
	if failures < 4*len(s.steps) {
		t.Errorf("the test tries too little: %d failures", failures)
	}
}

var errPulled = errors.New("the disk was pulled")

// wornOut is an error that is no pointer.
type wornOut struct{ sector int }

func (e wornOut) Error() string { return "worn out at " + strconv.Itoa(e.sector) }

// badSectors is an error that can't be compared.
type badSectors []int

func (e badSectors) Error() string { return "bad: " + fmt.Sprint([]int(e)) }

// lost is an error that says itself what it is.
type lost struct{ bus int }

func (e *lost) Error() string { return "lost with bus " + strconv.Itoa(e.bus) }

func (e *lost) Is(other error) bool { return other == errPulled }

// ownError is what a disk may answer when it fails, and what is to be found in an error that it has brought about.
type ownError struct {
	own     error
	isFound func(err error) bool
}

func ownErrors() map[string]ownError {
	isPulled := func(err error) bool { return errors.Is(err, errPulled) }
	isAt := func(sector int) func(error) bool {
		return func(err error) bool {
			var io *api.IOError
			return errors.As(err, &io) && io.Sector == sector
		}
	}
	return map[string]ownError{
		"of one text":       {errPulled, isPulled},
		"an IOError":        {&api.IOError{Sector: 7}, isAt(7)},
		"one within others": {fmt.Errorf("slot 2: %w", fmt.Errorf("bus 1: %w", &api.IOError{Sector: 5})), isAt(5)},
		"two in one":        {errors.Join(errPulled, &api.IOError{Sector: -1}), func(err error) bool { return isPulled(err) && isAt(-1)(err) }},
		"no pointer": {wornOut{3}, func(err error) bool {
			var w wornOut
			return errors.As(err, &w) && w == wornOut{3} && errors.Is(err, wornOut{3}) && !errors.Is(err, wornOut{4})
		}},
		"not to be compared": {badSectors{1, 2}, func(err error) bool {
			var b badSectors
			return errors.As(err, &b) && slices.Equal(b, badSectors{1, 2})
		}},
		"one that says what it is": {&lost{1}, isPulled},
		"a kind":                   {api.ErrRoom, func(err error) bool { return errors.Is(err, api.ErrRoom) }},
		"a Fault": {&api.Fault{Kind: api.ErrFull, At: 2, Cause: errPulled}, func(err error) bool {
			return errors.Is(err, api.ErrFull) && isPulled(err)
		}},
		"a Fault of a disk below": {&api.Fault{Kind: api.ErrDisk, Cause: &api.IOError{Sector: 9}}, isAt(9)},
	}
}

func TestP10P13ErrorsWrapTheirCause(t *testing.T) {
	for what, x := range ownErrors() {
		h, s := hostOf(t, api.MinSectors), long(t)
		h.own = x.own
		a := h.starts()
		for n := 1; n < len(s.steps); n++ {
			for calls := 0; ; calls++ {
				g := h.twin()
				b := g.starts()
				g.fails = calls
				if !s.failsAt(n, b, g) {
					break
				}
				if !x.isFound(b.Degraded()) {
					t.Errorf("%s: the cause is not found in %v", what, b.Degraded())
				}
			}
			s.steps[n].takenBy(t, a)
		}
		for calls := 0; ; calls++ {
			g := h.twin()
			g.fails = calls
			_, err := overlay.Start(lateDisk{g}, latePath{g})
			if g.failed == nil {
				break
			}
			diskFailed(t, what, err, x.own)
			if !x.isFound(err) {
				t.Errorf("%s: the cause is not found in %v", what, err)
			}
		}
	}
}

// failing: an agent with an entry of each table, at version 1, whose disk fails behind so many calls, and from then on.
func failing(t *testing.T, calls int, room [api.Tables]int) *rig {
	t.Helper()
	r := started(t, api.MinSectors, room)
	r.sends("a delta", change(t, 1, each...), "A1")
	r.d.left = calls
	return r
}

// each is an entry of each table.
var each = []api.Op{put(api.Mac, mac, hop), put(api.Route, route, hop), put(api.Acl, rule, "\x06\x01")}

// broke: is the agent degraded at version 1, because the disk failed with that error?
func (r *rig) broke(what string, own error) {
	r.t.Helper()
	r.takesNothing(what, 1, laid(each...), func() {
		r.t.Helper()
		diskFailed(r.t, what, r.a.Degraded(), own)
	})
}

func TestP13ADiskThatFailsForGood(t *testing.T) {
	for calls := range 4 { // a record, a flush, the root, a flush
		r := failing(t, calls, plenty)
		r.failsForGood("a delta", change(t, 2, drop(api.Mac, mac)))
		r = failing(t, calls, plenty)
		r.failsForGood("a state", r.arrives(9, put(api.Acl, rule, "\x00\x00")))
	}
}

// failsForGood: the disk fails, and does so in Start, too: does the agent stay degraded, for the error that came first, even when the disk is mended?
func (r *rig) failsForGood(what, frame string) {
	r.t.Helper()
	r.p.done = nil
	r.sends(what, frame, "E12")
	r.did(what)
	first := r.d.last
	r.broke(what, first)
	a, err := overlay.Start(r.d, r.p)
	if diskFailed(r.t, what+", then Start", err, r.d.last); a != nil || same(first, r.d.last) {
		r.t.Errorf("%s, then Start: %v, %v", what, a, err)
	}
	r.did(what + ", then Start")
	r.d.left = -1
	r.broke(what+", then the disk is mended", first)
}

func TestP13AnAgentWhoseDiskFailedCanBeAsked(t *testing.T) {
	r := failing(t, 0, plenty)
	r.sends("a delta", change(t, 2, drop(api.Mac, mac), drop(api.Route, route), drop(api.Acl, rule)), "E12")
	v, ok := r.a.Mac(mac)
	found(t, "Mac", mac, v, ok, hop)
	v, ok = r.a.Route("\x0a\x01\x00\x00")
	found(t, "Route", "10.1", v, ok, hop)
	if n, ok := r.a.Acl(6); n != 1 || !ok {
		t.Errorf("Acl(6) = %d, %v", n, ok)
	}
	if r.a.Size() != 11+10+5 || r.a.Count(api.Route) != 1 {
		t.Errorf("Size %d, %d routes", r.a.Size(), r.a.Count(api.Route))
	}
}

func TestP13WhatIsNotTakenInNeedsNoDisk(t *testing.T) {
	r := failing(t, 0, plenty)
	some := drop(api.Mac, mac)
	r.idle("not above", change(t, 1, some), "A1")
	r.idle("more than one above", change(t, 3, some), "R1")
	r.idle("no frame", "", "E1 R1")
	r.idle("another sum", change(t, 2, some)+"?", "E3 R1")
	r.idle("no kind", sealed(99, ""), "E6 R1")
	r.idle("where it stands", ask(), "R1")
	r.idle("an ask with a body", sealed(api.FrameAsk, "?"), "E2 R1")
	r.idle("a delta that may not be", sealed(api.FrameDelta, one+"?"), "E2 R1")
	r.idle("a state that may not begin", begin(9, 17), "E5 R1")
	r.idle("a state that is old", begin(1, 1), "A1")
	r.idle("a state begins", begin(9, 2), "W0")
	r.idle("a piece", piece(0, stateText(t, 9, some)[:4]), "W1")
	r.idle("a piece that may not be", piece(1, ""), "E1 R1")
	r.idle("another piece", piece(7, "?"), "W1")
	r.ticks("Tick", "W1")
	r.idle("a state that may not be", piece(1, "?"), "E1 R1")
	r.ticks("Tick", "R1")
	r.stands("on a disk that fails", 1, laid(each...))
	r.sends("the next delta", change(t, 2, some), "E12")
	r.broke("the next delta", r.d.last)
}

func TestP13FullAndRoomComeAheadOfTheDisk(t *testing.T) {
	asks := func(r *rig, what, frame string, kind api.Errno, at int) {
		t.Helper()
		asked := r.d.asked
		r.refuses(what, frame, kind, at)
		if r.d.asked != asked {
			t.Errorf("%s: the disk was asked", what)
		}
	}
	one := [api.Tables]int{1, 1, 1}
	asks(failing(t, 0, one), "a delta, full", change(t, 2, put(api.Route, "\x00\x00\x00\x00\x00", hop)), api.ErrFull, api.Route)
	r := failing(t, 0, one)
	asks(r, "a state, full", r.arrives(9, many(api.Acl, 2)...), api.ErrFull, api.Acl)
	r = failing(t, 0, plenty)
	asks(r, "a state, no room", r.arrives(9, many(api.Mac, 35)...), api.ErrRoom, 0)
	r = failing(t, -1, plenty)
	r.jumps(9, many(api.Mac, 34)...)
	r.d.left = 0
	asks(r, "a delta, no room", change(t, 10, many(api.Mac, 35)[34]), api.ErrRoom, 0)
}

func TestP13TheDiskFailsWhileAStateComes(t *testing.T) {
	r := failing(t, 0, plenty)
	last := r.arrives(9, many(api.Mac, 12)...)
	r.sends("a delta", change(t, 2, drop(api.Mac, mac)), "E12")
	r.idle("the last piece", last, "E13")
	r.d.left = -1
	r.idle("the last piece, again", last, "E13")
	r.broke("the last piece", r.d.last)
}

func TestP13TheFaultOfADiskWaits(t *testing.T) {
	for waiting := range api.MaxOut + 1 {
		r := failing(t, 0, plenty)
		want := ""
		for range waiting {
			r.a.Tick()
			want += "R1 "
		}
		r.a.Receive([]byte(change(t, 2, drop(api.Mac, mac))))
		for range api.MaxOut {
			r.a.Tick()
		}
		for i := waiting; i < api.MaxOut; i++ {
			want += []string{"E13 ", "E12 "}[max(0, waiting+1-i)]
		}
		r.tells("a fault", want[:len(want)-1])
		r.broke("a fault that waits, or is lost", r.d.last)
	}
}

func TestP2TheCauseIsTold(t *testing.T) {
	r := failing(t, 0, plenty)
	r.sends("a delta", change(t, 2, drop(api.Mac, mac)), "E12")
	var f *api.Fault
	if !errors.As(r.a.Degraded(), &f) {
		t.Fatal("no Fault")
	}
	*f = api.Fault{Kind: api.ErrRoom, At: 9}
	r.broke("behind an error that is written over", r.d.last)
}
