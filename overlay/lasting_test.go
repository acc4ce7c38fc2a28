package overlay_test

import (
	"slices"
	"strconv"
	"testing"

	"overlay/api"
	"overlay/overlay"
)

// changesTo: the changes of a delta of a version: of one to eight keys, in turn. Another salt makes others of the same keys.
func changesTo(v uint64, salt byte) []api.Op {
	at := func(n, of int) byte { return byte((int(v)*3 + n) % of) }
	var ops []api.Op
	for i := range []int{api.MaxOps, 4, 1}[v%3] {
		ops = append(ops, put(api.Mac, string([]byte{2, 0, 0, 0, 0, at(i, 18)}), string([]byte{10, salt, byte(v), byte(i + 1)})))
	}
	if v%3 == 1 {
		ops = append(ops, drop(api.Mac, string([]byte{2, 0, 0, 0, 0, at(9, 18)})))
		ops = append(ops, put(api.Route, string([]byte{at(0, 6), 0, 0, 0, 8}), string([]byte{salt, byte(v), 1, 1})))
		ops = append(ops, drop(api.Route, string([]byte{at(1, 6), 0, 0, 0, 8})))
		ops = append(ops, put(api.Acl, string([]byte{0, at(0, 5)}), string([]byte{6, salt % 2})))
	}
	return ops
}

// long: a story of deltas, with a state among them.
func long(t *testing.T) *story {
	s := storyOf(t, 0, nil)
	for range 12 {
		s.delta(changesTo(s.last().version+1, 1)...)
	}
	s.state(20, many(api.Mac, 19)...)
	for range 11 {
		s.delta(changesTo(s.last().version+1, 1)...)
	}
	return s
}

// tells: an agent is told a story, until all stops: the step at which that is (0: it does not).
func (s *story) tells(a *overlay.Agent, h *host) int {
	s.t.Helper()
	for i, next := range s.steps[1:] {
		if next.takes(s.t, a); h.stopped {
			return i + 1
		}
	}
	return 0
}

// finds: Start finds where one of some steps led to, from the first to the last: which one.
func (h *host) finds(what string, s *story, first, last int) int {
	h.t.Helper()
	before := sorted(h.entries)
	a := h.starts()
	for n := first; n <= last; n++ {
		if s.steps[n].version == a.Version() {
			h.standsAt(what, a, s.steps[n])
			s.had(what, n, before)
			return n
		}
	}
	h.t.Fatalf("%s: version %d is found, want %d to %d", what, a.Version(), s.steps[first].version, s.steps[last].version)
	return 0
}

// had: is each of some entries one that the tables had, at a step, or an earlier one?
func (s *story) had(what string, n int, entries []entry) {
	s.t.Helper()
	for n >= 0 && len(entries) > 0 { // from the last on, which has most of them
		entries = slices.DeleteFunc(entries, func(e entry) bool { return slices.Contains(s.steps[n].after, e) })
		n--
	}
	if len(entries) > 0 {
		s.t.Errorf("%s: the datapath has %x, which no tables had", what, entries)
	}
}

// under: the steps that may be found, if all has stopped at one.
func (h *host) under(n int) (int, int) {
	if h.logging {
		return n - 1, n
	}
	return n, n
}

func TestP14Again(t *testing.T) {
	for sectors := api.MinSectors; sectors <= api.MaxSectors; sectors++ {
		h, s := hostOf(t, sectors), long(t)
		a := h.starts()
		for i, next := range s.steps[1:] {
			next.takenBy(t, a)
			if i%3 == sectors%3 {
				a = h.starts()
				h.standsAt("started again", a, next)
			}
			a2 := h.twin().losesPower(0).starts()
			h.standsAt("what was acknowledged", a2, next)
		}
	}
}

func TestP14StopsAnywhere(t *testing.T) {
	s := long(t)
	cut := 0
	for ; ; cut++ {
		h := hostOf(t, api.MinSectors)
		a := h.starts()
		h.left = cut
		n := s.tells(a, h)
		if n == 0 {
			h.twin().finds("no stop", s, len(s.steps)-1, len(s.steps)-1)
			break
		}
		first, last := h.under(n)
		for choice, g := range h.choices() {
			what := "cut " + strconv.Itoa(cut) + ", choice " + strconv.Itoa(choice)
			found := g.twin().finds(what, s, first, last)
			g.stopsInStart(what, s, found, found)
			g.takesAnotherWay(what, s.steps[found])
		}
		h.twin().goesOn().keepsWhatIsFound("cut "+strconv.Itoa(cut), s, first, last)
		if t.Failed() {
			t.Fatalf("at cut %d", cut)
		}
	}
	if cut < 4*len(s.steps) {
		t.Errorf("the test tries too little: %d stops", cut)
	}
}

// stopsInStart: all stops within Start, at each operation: is what that has found, or else one of some steps, found by the next?
func (h *host) stopsInStart(what string, s *story, first, last int) {
	h.t.Helper()
	for cut := 0; ; cut++ {
		g := h.twin()
		g.left = cut
		a := g.starts()
		if !g.stopped {
			return
		}
		for first < last && !g.logging && s.steps[first].version < a.Version() {
			first++
		}
		for _, x := range g.choices() {
			x.finds(what+", and "+strconv.Itoa(cut)+" in Start", s, first, last)
		}
	}
}

// takesAnotherWay: an agent goes on from a step by a delta, or by a state, of which none was told ahead of the stop, and all stops again: is nothing found of what was told then?
func (h *host) takesAnotherWay(what string, from step) {
	h.t.Helper()
	byDelta, byState := storyOf(h.t, from.version, from.after), storyOf(h.t, from.version, from.after)
	byDelta.delta(changesTo(from.version+1, 2)...)
	byState.state(max(from.version+1, 20), put(api.Mac, mac, hop), put(api.Route, route, hop), put(api.Acl, rule, "\x00\x01"))
	for _, s := range []*story{byDelta, byState} {
		for cut := 0; ; cut++ {
			g := h.twin()
			a := g.starts()
			g.left = cut
			n := s.tells(a, g)
			if n == 0 {
				break
			}
			first, last := g.under(n)
			for choice, x := range g.choices() {
				x.finds(what+", then cut "+strconv.Itoa(cut)+", choice "+strconv.Itoa(choice), s, first, last)
			}
		}
	}
}

// keepsWhatIsFound: an agent is started while the disk has writes that have not taken hold: is what it finds found by all that come behind it, whatever is lost then?
func (h *host) keepsWhatIsFound(what string, s *story, first, last int) {
	h.t.Helper()
	h.twin().stopsInStart(what+", and the disk goes on", s, first, last)
	found := h.finds(what+", and the disk goes on", s, first, last)
	for choice, g := range h.choices() {
		g.finds(what+", found and then lost by choice "+strconv.Itoa(choice), s, found, last)
	}
}

func TestP14WhatIsTakenInIsLoggedFirst(t *testing.T) {
	h, s := hostOf(t, api.MinSectors), long(t)
	a := h.starts()
	for _, next := range s.steps[1:] {
		g := h.twin()
		other := g.starts()
		g.left = 0
		if next.takes(t, other); !g.stopped || !g.logging {
			t.Errorf("version %d: the first operation is none of the disk", next.version)
		}
		next.takenBy(t, a)
		if len(h.late) > 0 {
			t.Errorf("version %d is acknowledged, but not flushed", next.version)
		}
	}
}

func TestP10StartBringsAnyDatapathToWhatTheDiskHolds(t *testing.T) {
	h, s := hostOf(t, api.MinSectors), long(t)
	a := h.starts()
	s.tells(a, h)
	last := s.last()
	for _, there := range [][]entry{nil, last.after, s.steps[3].after, last.after[4:], laid(put(api.Mac, mac, "\x09\x09\x09\x09"), put(-1, "odd", "odd"))} {
		p := pathOf(t, plenty, there)
		a, err := overlay.Start(lateDisk{h}, p)
		expect(t, "Start", err, api.OK, 0)
		p.holds("Start", last.after, steps(there, last.after))
		r := &rig{t: t, p: p, a: a}
		r.tells("Start", "R"+strconv.FormatUint(last.version, 10))
		r.stands("Start", last.version, last.after)
	}
}

func TestP10StartOnADatapathThatIsTooSmall(t *testing.T) {
	h, s := hostOf(t, api.MinSectors), long(t)
	a := h.starts()
	s.tells(a, h)
	there := laid(put(api.Mac, mac, hop))
	for table := range api.Tables {
		room := plenty
		room[table] = a.Count(table) - 1
		p := pathOf(t, room, there)
		a, err := overlay.Start(lateDisk{h}, p)
		expect(t, "too small", err, api.ErrFull, table)
		if a != nil {
			t.Error("too small, but an agent")
		}
		p.holds("too small", there, nil)
	}
	h.finds("the datapath is as it was", s, len(s.steps)-1, len(s.steps)-1)
}

func TestP14AStateThatComesDoesNotLast(t *testing.T) {
	h := hostOf(t, api.MinSectors)
	a := h.starts()
	s := storyOf(t, 0, nil)
	s.delta(put(api.Mac, mac, hop))
	s.steps[1].takenBy(t, a)
	r := &rig{t: t, a: a}
	last := r.arrives(9, many(api.Mac, 12)...)
	a = h.starts()
	h.standsAt("a state came", a, s.steps[1])
	r = &rig{t: t, a: a}
	r.sends("its last piece", last, "R1")
	r.ticks("no state comes", "R1")
}

func TestP14DegradedAgentsStartAgain(t *testing.T) {
	h := hostOf(t, api.MinSectors)
	h.room = [api.Tables]int{2, 2, 2}
	a := h.starts()
	s := storyOf(t, 0, nil)
	s.delta(many(api.Mac, 2)...)
	s.steps[1].takenBy(t, a)
	r := &rig{t: t, a: a}
	r.sends("too many", change(t, 2, many(api.Route, 3)...), "E10")
	a = h.starts()
	h.standsAt("started again", a, s.steps[1])
	s.delta(put(api.Acl, rule, "\x00\x01"))
	s.steps[2].takenBy(t, a)
}

func TestP14TheGreatestVersions(t *testing.T) {
	h := hostOf(t, api.MinSectors)
	a := h.starts()
	s := storyOf(t, 0, nil)
	s.state(greatest-3, many(api.Acl, 3)...)
	for range 3 {
		s.delta(changesTo(s.last().version+1, 1)...)
	}
	for _, next := range s.steps[1:] {
		next.takenBy(t, a)
		a = h.starts()
		h.standsAt("started again", a, next)
	}
	r := &rig{t: t, a: a}
	r.sends("none is above", begin(greatest, 1), "A"+strconv.FormatUint(greatest, 10))
}

// full: a story at the end of which entries take as much as they may on a disk of so many sectors.
func full(t *testing.T, sectors int) *story {
	s := storyOf(t, 0, nil)
	for ops := range slices.Chunk(filling(16*(sectors-8)), api.MaxOps) {
		s.delta(ops...)
	}
	return s
}

func TestP14AsMuchAsMayBeLasts(t *testing.T) {
	for sectors := api.MinSectors; sectors <= api.MaxSectors; sectors++ {
		h, s := hostOf(t, sectors), full(t, sectors)
		a := h.starts()
		for range 40 { // so that all of it is written anew
			s.delta(s.again(api.MaxOps)...)
		}
		for _, next := range s.steps[1:] {
			next.takenBy(t, a)
			g := h.twin().losesPower(0)
			g.standsAt("as much as may be", g.starts(), next)
		}
	}
}

// again: so many changes that lay entries which are there, with the values that they have.
func (s *story) again(n int) []api.Op {
	var ops []api.Op
	for _, e := range s.last().after[:n] {
		ops = append(ops, put(e.key.Table, e.key.Bytes, e.value))
	}
	return ops
}

// oneInFour: an agent takes steps: is at most one of any four deltas, with no state between, such that it needs more than 4 sectors?
func (h *host) oneInFour(what string, a *overlay.Agent, steps []step) {
	h.t.Helper()
	since := 4 // deltas since one that needed more
	for _, next := range steps {
		before := h.writes
		next.takenBy(h.t, a)
		since++
		if next.isState {
			since = 4
		} else if h.writes-before > 4 {
			if since < 4 {
				h.t.Errorf("%s: version %d needs %d sectors, %d deltas behind another that needed more than 4", what, next.version, h.writes-before, since)
			}
			since = 0
		}
		if h.writes == before {
			h.t.Errorf("%s: version %d is not logged", what, next.version)
		}
	}
}

func TestP15FewSectorsAreWritten(t *testing.T) {
	for sectors := api.MinSectors; sectors <= api.MaxSectors; sectors++ {
		h, s := hostOf(t, sectors), full(t, sectors)
		for range 80 {
			s.delta(changesOf(s.last())...)
		}
		a := h.starts()
		h.oneInFour(strconv.Itoa(sectors)+" sectors", a, s.steps[1:])
		h.standsAt("at the end", a, s.last())
		h.standsAt("started again", h.starts(), s.last())
	}
}

// changesOf: changes that need as many bytes as may be, and leave the size of the tables as it is.
func changesOf(s step) []api.Op {
	var ops []api.Op
	for i := range min(api.MaxOps, len(s.after)) {
		e := s.after[i]
		value := string([]byte{byte(s.version), 1, 2, byte(i + 1)})
		if e.key.Table == api.Acl {
			value = "\x06\x01"
		}
		ops = append(ops, put(e.key.Table, e.key.Bytes, value))
	}
	return ops
}

func TestP15BehindStatesAndStarts(t *testing.T) {
	for apart := 1; apart <= 20; apart++ {
		h, s := hostOf(t, api.MinSectors), storyOf(t, 0, nil)
		for range 5 {
			v := s.last().version
			s.state(v+3, many(api.Mac, 34)...)
			for range apart {
				s.delta(changesOf(s.last())...)
			}
		}
		h.oneInFour("with states", h.starts(), s.steps[1:])
		for range 60 {
			s = storyOf(t, s.last().version, s.last().after)
			for range apart {
				s.delta(changesOf(s.last())...)
			}
			h.oneInFour("started again", h.starts(), s.steps[1:])
		}
	}
}

func TestP15StartAndWhatIsNotTakenIn(t *testing.T) {
	h, s := hostOf(t, api.MinSectors), long(t)
	a := h.starts()
	s.tells(a, h)
	writes := h.writes
	for range 3 {
		a = h.starts()
	}
	a.Tick()
	for _, next := range s.steps[1:] {
		next.takes(t, a)
	}
	a.Receive([]byte(ask()))
	if h.writes != writes {
		t.Errorf("%d sectors were written, but nothing was taken in", h.writes-writes)
	}
}
