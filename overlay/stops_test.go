package overlay_test

import (
	"slices"
	"strconv"
	"strings"
	"testing"

	"overlay/api"
	"overlay/overlay"
)

// trial is an agent that is sent frames without a plan, on a host that stops and fails, and the model of it.
type trial struct {
	controller
	h      *host
	a      *overlay.Agent
	m      model
	stops  int
	fails  int
	old    int // of both: so often what was ahead of it was found
	starts int
	missed int // Starts in which the disk failed
}

// receives: a frame comes, and perhaps all stops, or the disk fails: what may be found then.
func (x *trial) receives() {
	x.t.Helper()
	before := x.m
	frame := x.frame(x.m.version, x.m.next)
	x.a.Receive([]byte(frame))
	x.m.receive(x.t, frame)
	switch {
	case x.h.stopped:
		x.stops++
		x.again(before, x.h.logging)
	case x.failed():
		x.fails++
		x.again(before, true)
	default:
		x.agrees()
	}
}

// failed: is the agent degraded by the disk?
func (x *trial) failed() bool {
	x.t.Helper()
	return x.a.Degraded() != nil && faultOf(x.t, x.a.Degraded()).Kind == api.ErrDisk
}

// again: another agent is started: does it stand where the model stands, or, if something was being logged, where that stood before?
func (x *trial) again(before model, logging bool) {
	x.t.Helper()
	x.starts++
	x.rests()
	least := x.tries()
	x.a = x.h.starts()
	if x.a.Version() < least {
		x.t.Errorf("version %d, but a Start ahead of it has found %d", x.a.Version(), least)
	}
	if logging && x.a.Version() == before.version {
		x.m = before
		x.old++
	}
	x.m.begun, x.m.waits, x.m.why = 0, nil, api.Fault{}
	x.agrees()
	x.harms()
}

// tries: agents are started, perhaps, while the disk fails, perhaps: the version that the last one has found.
func (x *trial) tries() uint64 {
	x.t.Helper()
	least := uint64(0)
	for x.below(3) == 0 {
		x.h.fails = x.below(8)
		if a := x.h.tries("without a plan"); a == nil {
			x.missed++
		} else if least = max(least, a.Version()); a.Version() < least {
			x.t.Errorf("version %d, but a Start ahead of it has found %d", a.Version(), least)
		}
		x.rests()
	}
	return least
}

// rests: the disk goes on, or its power is lost.
func (x *trial) rests() {
	if x.below(3) == 0 {
		x.h.goesOn()
	} else {
		x.h.losesPower(x.below(1 << 12))
	}
}

// harms: perhaps all stops behind some operations, or the disk fails behind some calls.
func (x *trial) harms() {
	switch x.below(4) {
	case 0, 1:
		x.h.left = x.below(30)
	case 2:
		x.h.fails = x.below(16)
	}
}

// agrees: does the agent stand where the model stands?
func (x *trial) agrees() {
	x.t.Helper()
	if x.a.Version() != x.m.version {
		x.t.Errorf("version %d, want %d", x.a.Version(), x.m.version)
	}
	want := sorted(x.m.entries)
	if got := told(x.a.Entries()); !slices.Equal(got, want) {
		x.t.Errorf("%x, want %x", got, want)
	}
	if got := sorted(x.h.entries); !slices.Equal(got, want) {
		x.t.Errorf("the datapath has %x, want %x", got, want)
	}
	r := &rig{t: x.t, a: x.a}
	r.tells("without a plan", strings.Join(x.m.waits, " "))
	x.m.waits = nil
}

func TestP14WithoutAPlan(t *testing.T) {
	x := &trial{controller: controller{t: t}}
	for round := range 60 {
		x.h = hostOf(t, api.MinSectors+round%7)
		x.m = model{entries: map[api.Key]string{}, room: plenty, most: 16 * (api.MinSectors + round%7 - 8)}
		x.a = x.h.starts()
		x.harms()
		for n := range 400 {
			x.receives()
			if x.m.why.Kind != api.OK || x.below(40) == 0 {
				x.again(x.m, false)
			}
			if t.Failed() {
				t.Fatalf("round %d, frame %d", round, n)
			}
		}
	}
	if x.stops < 400 || x.fails < 200 || x.old < 200 || x.stops+x.fails-x.old < 200 || x.starts < 1500 || x.missed < 500 {
		t.Errorf("the test tries too little: %d stops, %d times what was ahead, %d failures, %d starts, %d in which the disk failed", x.stops, x.old, x.fails, x.starts, x.missed)
	}
}

func TestP1DisksOfAnySize(t *testing.T) {
	for _, sectors := range []int{0, 1, 2, 7} {
		h := hostOf(t, sectors)
		r := &rig{t: t, a: h.starts()}
		r.sends("a delta", change(t, 1, drop(api.Mac, mac)), "E11")
		expect(t, "a delta", r.a.Degraded(), api.ErrRoom, 0)
	}
	for _, sectors := range []int{8, 9, 10, 11, 12, 13, 20, 31, 129, 200, 1000} {
		h, s := hostOf(t, sectors), storyOf(t, 0, nil)
		a := h.starts()
		for i := range 300 {
			if i%50 == 40 {
				s.state(s.last().version + 7)
			} else {
				s.delta(drop(api.Mac, mac), drop(api.Acl, rule))
			}
			s.last().takenBy(t, a)
			a = h.losesPower(0).starts()
			h.standsAt(strconv.Itoa(sectors)+" sectors", a, s.last())
		}
	}
}

// oddDisk is a disk that tells any number of sectors, and has none.
type oddDisk struct{ sectors int }

func (d oddDisk) Sectors() int                   { return d.sectors }
func (d oddDisk) Read(n int) ([]byte, error)     { return nil, nil }
func (d oddDisk) Write(n int, data []byte) error { return &api.IOError{Sector: n} }
func (d oddDisk) Flush() error                   { return nil }

func TestP1DisksOfOddNumbers(t *testing.T) {
	for _, sectors := range append(slices.Clone(oddNumbers), -1<<59, -1<<59-9, 1<<59, 1<<59+7, 1<<59+9, 1<<60) {
		p := pathOf(t, plenty, nil)
		a, err := overlay.Start(oddDisk{sectors}, p)
		expect(t, "Start", err, api.OK, 0)
		r := &rig{t: t, a: a, p: p}
		r.tells("Start", "R0")
		want := "E12"
		if sectors < 8 {
			want = "E11"
		}
		r.sends("a delta", change(t, 1, drop(api.Mac, mac)), want)
		p.holds("a delta", nil, nil)
	}
}

func TestP10DisksThatNoAgentHasWritten(t *testing.T) {
	var n noise
	refused := 0
	good := hostOf(t, api.MinSectors)
	long(t).tells(good.starts(), good)
	for round := range 3000 {
		h := good.twin()
		for range 1 + round%4 { // some of what agents have written is another
			i := []int{0, n.below(len(h.held))}[n.below(2)]
			b := slices.Clone(h.held[i])
			for range 1 + n.below(4) {
				b[n.below(8)] = byte(n.below(256))
			}
			h.held[i] = b
		}
		h.losesPower(0)
		there := sorted(h.entries)
		a, err := overlay.Start(lateDisk{h}, latePath{h})
		if err == nil {
			continue // it is as one that agents may have written
		}
		refused++
		expect(t, "a disk that no agent has written", err, api.ErrDisk, 0)
		if a != nil || !slices.Equal(sorted(h.entries), there) {
			t.Error("an error, and something is done")
		}
	}
	if refused < 1000 {
		t.Errorf("the test tries too little: %d disks are refused", refused)
	}
}
