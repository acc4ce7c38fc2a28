package store

import (
	"errors"
	"slices"
	"strconv"
	"testing"

	"overlay/api"
	"overlay/entry"
	"overlay/wire"
)

// disk is sectors that tell what they are, cut off behind the last byte that is not 0 (which reads as the same).
type disk struct {
	sectors [][]byte
	written []int
	flushed []int // how many were written ahead of each flush
	left    int   // so many calls more do not fail (below 0: none fails)
	failed  bool
}

func diskOf(sectors int) *disk { return &disk{sectors: make([][]byte, sectors), left: -1} }

var errWorn = errors.New("worn out")

// failure: one call more: does it fail?
func (d *disk) failure() error {
	if d.left == 0 {
		d.failed = true
		return errWorn
	}
	d.left--
	return nil
}

func (d *disk) Sectors() int { return len(d.sectors) }

func (d *disk) Read(n int) ([]byte, error) { return slices.Clone(d.sectors[n]), d.failure() }

func (d *disk) Write(n int, data []byte) error {
	if err := d.failure(); err != nil {
		return err
	}
	end := len(data)
	for end > 0 && data[end-1] == 0 {
		end--
	}
	d.sectors[n] = slices.Clone(data[:end])
	d.written = append(d.written, n)
	return nil
}

func (d *disk) Flush() error {
	d.flushed = append(d.flushed, len(d.written))
	return d.failure()
}

// opened: what a disk holds.
func opened(t *testing.T, d *disk) (*Store, uint64, entry.List) {
	t.Helper()
	s, version, list, err := Open(d)
	if err != nil || s == nil {
		t.Fatalf("Open: %v, %v", s, err)
	}
	return s, version, list
}

// holds: is this what a disk holds?
func holds(t *testing.T, what string, d *disk, version uint64, list entry.List) {
	t.Helper()
	if _, v, l := opened(t, d); v != version || !slices.Equal(l, list) {
		t.Errorf("%s: version %d, %x, want %d, %x", what, v, l, version, list)
	}
}

// macs: so many entries of the first table.
func macs(n int) entry.List {
	var l entry.List
	for i := range n {
		l = append(l, entry.Entry{Key: api.Key{Table: api.Mac, Bytes: string([]byte{2, 0, 0, 0, byte(i / 256), byte(i)})}, Value: "\x0a\x00\x00\x01"})
	}
	return l
}

// long: a delta of as many bytes as may be.
func long(t *testing.T, version uint64) (api.Delta, []byte) {
	t.Helper()
	d := api.Delta{Version: version}
	for _, e := range macs(api.MaxOps) {
		d.Ops = append(d.Ops, api.Op{Kind: api.Put, Key: e.Key, Value: string([]byte{9, 9, 9, byte(version%255 + 1)})})
	}
	b, err := wire.Encode(d)
	if err != nil {
		t.Fatal(err)
	}
	return d, b
}

func TestLayouts(t *testing.T) {
	for sectors := api.MinSectors; sectors <= api.MaxSectors; sectors++ {
		l := layoutOf(sectors)
		if l.room != 16*(sectors-8) || !l.isUsed() {
			t.Errorf("%d sectors: room for %d", sectors, l.room)
		}
		if l.areaSectors*api.SectorSize < lengthBytes+wire.StateHead+l.room {
			t.Errorf("%d sectors: an area of %d sectors is too small", sectors, l.areaSectors)
		}
		if l.slots < 3 {
			t.Errorf("%d sectors: the log takes %d deltas: of four more than one may need more sectors", sectors, l.slots)
		}
		apart := l.area(0) > rootSector && l.area(1) >= l.area(0)+l.areaSectors && l.slot(0) >= l.area(1)+l.areaSectors
		if !apart || l.slot(l.slots) > sectors {
			t.Errorf("%d sectors: areas at %d and %d, the log at %d to %d", sectors, l.area(0), l.area(1), l.slot(0), l.slot(l.slots))
		}
	}
	for _, sectors := range []int{-1 << 63, -1 << 59, -1, 0, 7} {
		if layoutOf(sectors).isUsed() {
			t.Errorf("%d sectors are used", sectors)
		}
	}
	for _, sectors := range []int{8, 9, 31, 129, mostSectors, mostSectors + 1, 1 << 59, 1<<63 - 1} {
		if l := layoutOf(sectors); !l.isUsed() || l.slots < 1 || l.slots > mostSlots || l.slot(l.slots) > sectors {
			t.Errorf("%d sectors: %v", sectors, l)
		}
	}
}

func TestTheLongestDeltaFitsIntoASlot(t *testing.T) {
	_, b := long(t, 1)
	if len(b)+lengthBytes > slotSectors*api.SectorSize {
		t.Errorf("a delta of %d bytes does not fit", len(b))
	}
}

func TestNothingThatTheRootTellsOfIsWritten(t *testing.T) {
	d := diskOf(api.MinSectors)
	s, version, list := opened(t, d)
	for range 100 {
		version++
		held := told(s)
		d.written, d.flushed = nil, nil
		if version%13 == 0 {
			list = macs(int(version) % 34)
			keeps(t, s.KeepState(version, list))
		} else {
			delta, b := long(t, version)
			list = list.After(delta.Ops)
			keeps(t, s.KeepDelta(b, version, list))
		}
		last := len(d.written) - 1
		if d.written[last] != rootSector || !slices.Equal(d.flushed, []int{last, last + 1}) {
			t.Errorf("written %v, with flushes behind %v", d.written, d.flushed)
		}
		for _, n := range d.written[:last] {
			if n == rootSector || slices.Contains(held, n) {
				t.Errorf("sector %d is written, while it holds", n)
			}
		}
		holds(t, "version "+strconv.FormatUint(version, 10), d, version, list)
	}
}

// told: the sectors that a root tells of.
func told(s *Store) []int {
	var all []int
	for n := range s.layout.areaSectors {
		all = append(all, s.layout.area(s.root.area)+n)
	}
	for n := range s.root.deltas * slotSectors {
		all = append(all, s.layout.slot(0)+n)
	}
	return all
}

func keeps(t *testing.T, err error) {
	t.Helper()
	if err != nil {
		t.Fatal(err)
	}
}

func TestStatesOfEverySize(t *testing.T) {
	d := diskOf(api.MaxSectors)
	s, version, _ := opened(t, d)
	for n := range s.Room()/11 + 1 { // greater and lesser ones in turn: of the greater something is left behind the lesser
		for _, list := range []entry.List{macs(s.Room()/11 - n), macs(n)} {
			version++
			keeps(t, s.KeepState(version, list))
			holds(t, "a state", d, version, list)
		}
	}
}

// written: a disk on which an agent has kept a state, and deltas behind it.
func written(t *testing.T) *disk {
	t.Helper()
	d := diskOf(api.MinSectors)
	s, _, _ := opened(t, d)
	keeps(t, s.KeepState(5, macs(20)))
	for v := uint64(6); v < 9; v++ {
		_, b := long(t, v)
		keeps(t, s.KeepDelta(b, v, nil))
	}
	return d
}

func TestDisksThatAreBroken(t *testing.T) {
	l := layoutOf(api.MinSectors)
	_, other := long(t, 8)
	other = append([]byte{0, 0, 0, byte(len(other))}, other...)
	for what, change := range map[string]func(d *disk){
		"no such area":           func(d *disk) { d.sectors[rootSector] = []byte{2, 0} },
		"more than the log has":  func(d *disk) { d.sectors[rootSector] = []byte{1, byte(l.slots + 1)} },
		"a delta that is none":   func(d *disk) { d.sectors[rootSector] = []byte{1, 4} },
		"the other area":         func(d *disk) { d.sectors[rootSector] = []byte{0, 3} },
		"a state of any length":  func(d *disk) { d.sectors[l.area(1)] = []byte{255, 255, 255, 255} },
		"a state beyond its end": func(d *disk) { d.sectors[l.area(1)][3] = 255 },
		"a state that is none":   func(d *disk) { d.sectors[l.area(1)+1] = nil },
		"a delta of any length":  func(d *disk) { d.sectors[l.slot(1)] = []byte{255, 255, 255, 255} },
		"a delta cut off":        func(d *disk) { d.sectors[l.slot(1)+1] = nil },
		"another version":        func(d *disk) { d.sectors[l.slot(1)] = other[:api.SectorSize] },
	} {
		d := written(t)
		holds(t, "not broken", d, 8, after(t))
		change(d)
		s, version, list, err := Open(d)
		f, isFault := err.(*api.Fault)
		if !isFault || *f != (api.Fault{Kind: api.ErrDisk}) || s != nil || version != 0 || list != nil {
			t.Errorf("%s: %v, %d, %x, %v", what, s, version, list, err)
		}
	}
}

// after: what a written disk holds.
func after(t *testing.T) entry.List {
	t.Helper()
	d, _ := long(t, 8)
	return macs(20).After(d.Ops)
}

// wraps: is an error that of a disk that has failed?
func wraps(t *testing.T, what string, err error) {
	t.Helper()
	f, isFault := err.(*api.Fault)
	if !isFault || *f != (api.Fault{Kind: api.ErrDisk, Cause: errWorn}) {
		t.Errorf("%s: %v", what, err)
	}
}

func TestOpenFailsWhereTheDiskDoes(t *testing.T) {
	calls := 0
	for ; ; calls++ {
		d := written(t)
		d.left = calls
		s, version, list, err := Open(d)
		if !d.failed {
			keeps(t, err)
			break
		}
		wraps(t, "Open", err)
		if s != nil || version != 0 || list != nil {
			t.Errorf("Open: an error, and %v, %d, %x", s, version, list)
		}
	}
	if calls < 1+1+4+3*2 { // a flush, the root, the state, and three deltas
		t.Errorf("Open asks too little: %d calls", calls)
	}
}

func TestKeepFailsWhereTheDiskDoes(t *testing.T) {
	_, b := long(t, 9)
	list := macs(30)
	for what, keep := range map[string]func(*Store) error{
		"a delta":                func(s *Store) error { return s.KeepDelta(b, 9, list) },
		"a state":                func(s *Store) error { return s.KeepState(9, list) },
		"a delta, no slots left": func(s *Store) error { s.layout.slots = 3; return s.KeepDelta(b, 9, list) },
	} {
		for calls := 0; ; calls++ {
			d := written(t)
			s, _, _ := opened(t, d)
			d.left, d.written = calls, nil
			err := keep(s)
			d.left = -1
			if !d.failed {
				keeps(t, err)
				break
			}
			wraps(t, what, err)
			if !slices.Contains(d.written, rootSector) { // nothing tells of it
				holds(t, what, d, 8, after(t))
			}
		}
	}
}

func TestNoDisk(t *testing.T) {
	if s, version, list, err := Open(nil); s != nil || version != 0 || list != nil || err == nil {
		t.Errorf("%v, %d, %x, %v", s, version, list, err)
	}
}
