package overlay_test

import (
	"math"
	"slices"
	"strconv"
	"strings"
	"testing"

	"overlay/api"
	"overlay/overlay"
)

// disk is sectors of noughts at first, that count how often they are asked, and may fail.
type disk struct {
	sectors [][]byte
	asked   int
	left    int   // so many calls more do not fail (below 0: none fails)
	last    error // what it answered when it failed last
}

// diskOf: a disk of so many sectors.
func diskOf(sectors int) *disk {
	d := &disk{left: -1}
	for range sectors {
		d.sectors = append(d.sectors, make([]byte, api.SectorSize))
	}
	return d
}

// failed: one call more: does it fail?
func (d *disk) failed(at int) error {
	d.asked++
	if d.left == 0 {
		d.last = &api.IOError{Sector: at}
		return d.last
	}
	d.left--
	return nil
}

func (d *disk) Sectors() int {
	d.asked++
	return len(d.sectors)
}

func (d *disk) Read(n int) ([]byte, error) {
	if err := d.failed(n); err != nil {
		return nil, err
	}
	return slices.Clone(d.sectors[n]), nil
}

func (d *disk) Write(n int, data []byte) error {
	if err := d.failed(n); err != nil {
		return err
	}
	d.sectors[n] = make([]byte, api.SectorSize)
	copy(d.sectors[n], data)
	return nil
}

func (d *disk) Flush() error { return d.failed(-1) }

// rig is an agent on a disk and a datapath of its own.
type rig struct {
	t *testing.T
	d *disk
	p *path
	a *overlay.Agent
}

// started: an agent on a disk of noughts and an empty datapath, that has told where it stands.
func started(t *testing.T, sectors int, room [api.Tables]int) *rig {
	t.Helper()
	r := &rig{t: t, d: diskOf(sectors), p: pathOf(t, room, nil)}
	a, err := overlay.Start(r.d, r.p)
	if err != nil || a == nil {
		t.Fatalf("Start: %v, %v", a, err)
	}
	r.a = a
	r.tells("a new agent", "R0")
	return r
}

// waiting: the frames that wait: R, A, E or W, and a number.
func (r *rig) waiting() string {
	r.t.Helper()
	var all []string
	for {
		frame, ok := r.a.Next()
		if !ok {
			if frame != nil {
				r.t.Errorf("no frame, but %q", frame)
			}
			return strings.Join(all, " ")
		}
		all = append(all, r.named(frame))
	}
}

// named: a frame to the controller as a text.
func (r *rig) named(frame []byte) string {
	r.t.Helper()
	kind, body, err := overlay.Unseal(frame)
	names := map[byte]string{api.FrameResume: "R", api.FrameAck: "A", api.FrameError: "E", api.FrameWant: "W"}
	sizes := map[byte]int{api.FrameResume: 8, api.FrameAck: 8, api.FrameError: 1, api.FrameWant: 1}
	if err != nil || names[kind] == "" || len(body) != sizes[kind] {
		r.t.Errorf("no frame to the controller: %q, %v", frame, err)
	}
	var n uint64
	for _, x := range body {
		n = n<<8 | uint64(x)
	}
	return names[kind] + strconv.FormatUint(n, 10)
}

// tells: do just these frames wait?
func (r *rig) tells(what, want string) {
	r.t.Helper()
	if got := r.waiting(); got != want {
		r.t.Errorf("%s: %s, want %s", what, got, want)
	}
}

// sends: is a frame answered so?
func (r *rig) sends(what, frame, want string) {
	r.t.Helper()
	r.a.Receive([]byte(frame))
	r.tells(what, want)
}

// ticks: is a Tick answered so?
func (r *rig) ticks(what, want string) {
	r.t.Helper()
	r.a.Tick()
	r.tells(what, want)
}

// idle: is a frame answered so, and nothing else done?
func (r *rig) idle(what, frame, want string) {
	r.t.Helper()
	version, entries := r.a.Version(), told(r.a.Entries())
	asked, done := r.d.asked, len(r.p.done)
	r.sends(what, frame, want)
	if r.d.asked != asked || len(r.p.done) != done {
		r.t.Errorf("%s: the disk was asked, or the datapath changed: %x", what, r.p.done[done:])
	}
	if r.a.Version() != version || !slices.Equal(told(r.a.Entries()), entries) {
		r.t.Errorf("%s: version %d, %x, want %d, %x", what, r.a.Version(), told(r.a.Entries()), version, entries)
	}
}

// stands: has an agent that is not degraded this version and these entries, and its datapath, too?
func (r *rig) stands(what string, version uint64, want []entry) {
	r.t.Helper()
	if r.a.Version() != version || r.a.Degraded() != nil {
		r.t.Errorf("%s: version %d, %v, want %d", what, r.a.Version(), r.a.Degraded(), version)
	}
	hold(r.t, what, r.a, want)
	r.p.holds(what, want, r.p.done)
}

// did: was just this done to the datapath, since that was asked last?
func (r *rig) did(what string, want ...api.Op) {
	r.t.Helper()
	if !slices.Equal(r.p.done, want) {
		r.t.Errorf("%s: done: %x, want %x", what, r.p.done, want)
	}
	r.p.done = nil
}

// eight: a number in eight bytes.
func eight(n uint64) string { return four(uint32(n>>32)) + four(uint32(n)) }

func sealed(kind byte, body string) string { return string(overlay.Seal(kind, []byte(body))) }

func ask() string { return sealed(api.FrameAsk, "") }

func begin(version uint64, pieces byte) string {
	return sealed(api.FrameBegin, eight(version)+string([]byte{pieces}))
}

func piece(n byte, text string) string { return sealed(api.FramePiece, string([]byte{n})+text) }

// change: the frame of a delta.
func change(t *testing.T, version uint64, ops ...api.Op) string {
	t.Helper()
	b, err := overlay.Encode(delta(version, ops...))
	if err != nil {
		t.Fatal(err)
	}
	return sealed(api.FrameDelta, string(b))
}

// stateText: the bytes of a state of these entries.
func stateText(t *testing.T, version uint64, ops ...api.Op) string {
	t.Helper()
	b, err := overlay.EncodeAll(version, tablesOf(t, ops...))
	if err != nil {
		t.Fatal(err)
	}
	return string(b)
}

// arrives: a state comes, but for its last piece: the frame of that.
func (r *rig) arrives(version uint64, ops ...api.Op) string {
	r.t.Helper()
	text := stateText(r.t, version, ops...)
	n := (len(text) + api.MaxPiece - 1) / api.MaxPiece
	r.sends("a state begins", begin(version, byte(n)), "W0")
	for i := range n - 1 {
		r.sends("a piece", piece(byte(i), text[i*api.MaxPiece:][:api.MaxPiece]), "W"+strconv.Itoa(i+1))
	}
	return piece(byte(n-1), text[(n-1)*api.MaxPiece:])
}

// jumps: a state brings the agent to a version and entries.
func (r *rig) jumps(version uint64, ops ...api.Op) {
	r.t.Helper()
	r.sends("the last piece", r.arrives(version, ops...), "A"+strconv.FormatUint(version, 10))
	r.stands("a state", version, laid(ops...))
}

// greatest is the version that has none behind it.
const greatest = math.MaxUint64 - 1
