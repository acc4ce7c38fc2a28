package overlay_test

import (
	"iter"
	"maps"
	"slices"
	"strconv"
	"testing"

	"overlay/api"
	"overlay/overlay"
)

// host is what agents live on, one behind the other: a disk whose writes take hold late, and a datapath. All may stop at an operation (a write, a flush, a put, a drop); the disk may fail at a call.
type host struct {
	t       *testing.T
	held    [][]byte // what has taken hold
	seen    [][]byte // what is read: with the writes that have not
	late    []late
	entries map[api.Key]string
	room    [api.Tables]int
	left    int   // so many operations more are done (below 0: all)
	stopped bool  // one came too late
	logging bool  // the first of those was one of the disk
	fails   int   // behind so many calls the disk fails once (below 0: it does not)
	own     error // that is what it answers then (nil: an IOError)
	failed  error // what it answered when it failed last
	asked   int   // how many calls of the disk there were
	writes  int   // how many of them wrote
}

// late is a sector that was written, and has not taken hold.
type late struct {
	sector int
	data   []byte
}

// hostOf: a host with a disk of noughts, and an empty datapath.
func hostOf(t *testing.T, sectors int) *host {
	h := &host{t: t, entries: map[api.Key]string{}, room: plenty, left: -1, fails: -1}
	for range sectors {
		h.held = append(h.held, make([]byte, api.SectorSize))
	}
	h.seen = slices.Clone(h.held)
	return h
}

// twin: another host in the same place. (Sectors are never written into, but replaced.)
func (h *host) twin() *host {
	g := *h
	g.held, g.seen, g.late = slices.Clone(h.held), slices.Clone(h.seen), slices.Clone(h.late)
	g.entries = maps.Clone(h.entries)
	return &g
}

// goesOn: what stopped goes on, and the disk keeps what it was told, taken hold or not.
func (h *host) goesOn() *host {
	h.left, h.stopped, h.logging, h.fails = -1, false, false, -1
	return h
}

// losesPower: of the writes that have not taken hold those do whose bit is 1, and no others.
func (h *host) losesPower(choice int) *host {
	for i, w := range h.late {
		if choice>>i&1 == 1 {
			h.held[w.sector] = w.data
		}
	}
	h.late, h.seen = nil, slices.Clone(h.held)
	return h.goesOn()
}

// choices: a host for each choice of writes that take hold when the power is lost; where these are too many, for few of them.
func (h *host) choices() iter.Seq2[int, *host] {
	if len(h.late) > 8 {
		return h.fewChoices()
	}
	return func(yield func(int, *host) bool) {
		for choice := range 1 << len(h.late) {
			if !yield(choice, h.twin().losesPower(choice)) {
				return
			}
		}
	}
}

// fewChoices: a host for each of these choices: no write takes hold, or all do, or one alone, or all but one.
func (h *host) fewChoices() iter.Seq2[int, *host] {
	all := 1<<len(h.late) - 1
	few := []int{0, all}
	for i := range h.late {
		few = append(few, 1<<i, all&^(1<<i))
	}
	slices.Sort(few)
	few = slices.Compact(few)
	return func(yield func(int, *host) bool) {
		for _, choice := range few {
			if !yield(choice, h.twin().losesPower(choice)) {
				return
			}
		}
	}
}

// tooLate: one operation more: has all stopped?
func (h *host) tooLate(ofDisk bool) bool {
	if h.left == 0 && !h.stopped {
		h.stopped, h.logging = true, ofDisk
	}
	if h.left > 0 {
		h.left--
	}
	return h.stopped
}

// failure: one call of the disk more: does it fail?
func (h *host) failure(sector int) error {
	h.asked++
	if h.fails < 0 {
		return nil
	}
	h.fails--
	if h.fails >= 0 {
		return nil
	}
	h.failed = h.own
	if h.own == nil {
		h.failed = &api.IOError{Sector: sector}
	}
	return h.failed
}

// lateDisk is a host's disk.
type lateDisk struct{ *host }

func (d lateDisk) Sectors() int {
	d.asked++
	return len(d.held)
}

func (d lateDisk) Read(n int) ([]byte, error) {
	if err := d.failure(n); err != nil {
		return nil, err
	}
	return slices.Clone(d.seen[n]), nil
}

func (d lateDisk) Write(n int, data []byte) error {
	if err := d.failure(n); err != nil {
		return err
	}
	if len(data) > api.SectorSize {
		d.t.Errorf("%d bytes for sector %d", len(data), n)
	}
	d.writes++
	if d.tooLate(true) {
		return nil
	}
	d.seen[n] = make([]byte, api.SectorSize)
	copy(d.seen[n], data)
	d.late = append(d.late, late{n, d.seen[n]})
	return nil
}

func (d lateDisk) Flush() error {
	if err := d.failure(-1); err != nil {
		return err
	}
	if d.tooLate(true) {
		return nil
	}
	for _, w := range d.late {
		d.held[w.sector] = w.data
	}
	d.late = nil
	return nil
}

// latePath is a host's datapath.
type latePath struct{ *host }

func (p latePath) Room(table int) int { return p.room[table] }

func (p latePath) Put(k api.Key, value string) {
	if !p.tooLate(false) {
		p.entries[k] = value
	}
}

func (p latePath) Drop(k api.Key) {
	if !p.tooLate(false) {
		delete(p.entries, k)
	}
}

func (p latePath) Dump() iter.Seq2[api.Key, string] { return maps.All(p.entries) }

// starts: an agent on a host, that tells where it stands.
func (h *host) starts() *overlay.Agent {
	h.t.Helper()
	a, err := overlay.Start(lateDisk{h}, latePath{h})
	if err != nil || a == nil {
		h.t.Fatalf("Start: %v, %v", a, err)
	}
	r := &rig{t: h.t, a: a}
	r.tells("Start", "R"+strconv.FormatUint(a.Version(), 10))
	return a
}

// step is what a delta or a state brings an agent to.
type step struct {
	frames  []string
	isState bool
	version uint64
	after   []entry
}

// story is steps, one behind the other.
type story struct {
	t      *testing.T
	tables *overlay.Tables
	steps  []step
}

// storyOf: the story of an agent that has these tables, and came to a version.
func storyOf(t *testing.T, version uint64, entries []entry) *story {
	s := &story{t: t, tables: overlay.NewTables()}
	for _, e := range entries {
		apply(t, s.tables, put(e.key.Table, e.key.Bytes, e.value))
	}
	s.steps = []step{{version: version, after: entries}}
	return s
}

// last: where it ends.
func (s *story) last() step { return s.steps[len(s.steps)-1] }

// delta: a delta comes next.
func (s *story) delta(ops ...api.Op) {
	s.t.Helper()
	v := s.last().version + 1
	apply(s.t, s.tables, ops...)
	s.steps = append(s.steps, step{frames: []string{change(s.t, v, ops...)}, version: v, after: told(s.tables.Entries())})
}

// state: a state comes next.
func (s *story) state(version uint64, ops ...api.Op) {
	s.t.Helper()
	s.tables = tablesOf(s.t, ops...)
	text := stateText(s.t, version, ops...)
	var pieces []string
	for from := 0; from < len(text); from += api.MaxPiece {
		pieces = append(pieces, piece(byte(len(pieces)), text[from:min(from+api.MaxPiece, len(text))]))
	}
	frames := append([]string{begin(version, byte(len(pieces)))}, pieces...)
	s.steps = append(s.steps, step{frames: frames, isState: true, version: version, after: told(s.tables.Entries())})
}

// takes: an agent takes a step: what it answers at last.
func (s step) takes(t *testing.T, a *overlay.Agent) string {
	t.Helper()
	r := &rig{t: t, a: a}
	answer := ""
	for _, frame := range s.frames {
		a.Receive([]byte(frame))
		answer = r.waiting()
	}
	return answer
}

// takenBy: does an agent take a step, and acknowledge it?
func (s step) takenBy(t *testing.T, a *overlay.Agent) {
	t.Helper()
	if answer := s.takes(t, a); answer != "A"+strconv.FormatUint(s.version, 10) {
		t.Errorf("a step to version %d: %s, %v", s.version, answer, a.Degraded())
	}
}

// standsAt: are an agent and its datapath where a step leads?
func (h *host) standsAt(what string, a *overlay.Agent, s step) {
	h.t.Helper()
	if a.Version() != s.version || a.Degraded() != nil {
		h.t.Errorf("%s: version %d, %v, want %d", what, a.Version(), a.Degraded(), s.version)
	}
	if got := told(a.Entries()); !slices.Equal(got, s.after) {
		h.t.Errorf("%s: %x, want %x", what, got, s.after)
	}
	if got := sorted(h.entries); !slices.Equal(got, s.after) {
		h.t.Errorf("%s: the datapath has %x, want %x", what, got, s.after)
	}
}
