package overlay_test

import (
	"maps"
	"slices"
	"strconv"
	"strings"
	"testing"

	"overlay/api"
	"overlay/overlay"
)

// model is an agent by the promises' words.
type model struct {
	version     uint64
	entries     map[api.Key]string
	room        [api.Tables]int
	most        int
	begun       uint64 // of the state that comes (0: none does)
	text        string
	next, count int
	why         api.Fault
	waits       []string
}

func (m *model) tell(what string, n uint64) {
	if len(m.waits) < api.MaxOut {
		m.waits = append(m.waits, what+strconv.FormatUint(n, 10))
	}
}

// fault: that fault, and where it stands.
func (m *model) fault(kind api.Errno) {
	m.tell("E", uint64(kind))
	m.tell("R", m.version)
}

func (m *model) tick() {
	switch {
	case m.why.Kind != api.OK:
		m.tell("E", uint64(api.ErrDegraded))
	case m.begun != 0:
		m.tell("W", uint64(m.next))
	default:
		m.tell("R", m.version)
	}
}

func (m *model) receive(t *testing.T, frame string) {
	t.Helper()
	kind, body, err := overlay.Unseal([]byte(frame))
	switch {
	case m.why.Kind != api.OK:
		m.tell("E", uint64(api.ErrDegraded))
	case err != nil:
		m.fault(faultOf(t, err).Kind)
	case kind == api.FrameDelta:
		m.delta(t, body)
	case kind == api.FrameAsk && len(body) > 0:
		m.fault(api.ErrMore)
	case kind == api.FrameAsk:
		m.tell("R", m.version)
	case kind == api.FrameBegin:
		m.begin(string(body))
	case kind == api.FramePiece:
		m.piece(t, string(body))
	default:
		m.fault(api.ErrKind)
	}
}

func (m *model) delta(t *testing.T, body []byte) {
	t.Helper()
	d, err := overlay.Decode(body)
	switch {
	case err != nil:
		m.fault(faultOf(t, err).Kind)
	case d.Version <= m.version:
		m.tell("A", m.version)
	case d.Version != m.version+1:
		m.tell("R", m.version)
	default:
		next := maps.Clone(m.entries)
		for _, op := range d.Ops {
			delete(next, op.Key)
			if op.Kind == api.Put {
				next[op.Key] = op.Value
			}
		}
		m.takeIn(d.Version, next)
	}
}

func (m *model) begin(body string) {
	switch {
	case len(body) < 9:
		m.fault(api.ErrShort)
	case len(body) > 9:
		m.fault(api.ErrMore)
	case body[:8] == eight(0) || body[:8] == eight(greatest+1):
		m.fault(api.ErrVersion)
	case body[8] == 0 || body[8] > api.MaxPieces:
		m.fault(api.ErrCount)
	case body[:8] <= eight(m.version):
		m.tell("A", m.version)
	default:
		m.text, m.next, m.count, m.begun = "", 0, int(body[8]), 0
		for _, x := range []byte(body[:8]) {
			m.begun = m.begun*256 + uint64(x)
		}
		m.tell("W", 0)
	}
}

func (m *model) piece(t *testing.T, body string) {
	t.Helper()
	switch {
	case len(body) < 2:
		m.fault(api.ErrShort)
	case len(body) > 65:
		m.fault(api.ErrMore)
	case m.begun == 0:
		m.tell("R", m.version)
	case int(body[0]) != m.next:
		m.tell("W", uint64(m.next))
	case m.next+1 < m.count:
		m.text += body[1:]
		m.next++
		m.tell("W", uint64(m.next))
	default:
		m.whole(t, m.begun, m.text+body[1:])
	}
}

func (m *model) whole(t *testing.T, begun uint64, text string) {
	t.Helper()
	m.begun = 0
	v, x, err := overlay.DecodeAll([]byte(text))
	switch {
	case err != nil:
		m.fault(faultOf(t, err).Kind)
	case v != begun:
		m.fault(api.ErrVersion)
	case v <= m.version:
		m.tell("A", m.version)
	default:
		m.takeIn(v, maps.Collect(x.Entries()))
	}
}

func (m *model) takeIn(version uint64, entries map[api.Key]string) {
	var count [api.Tables]int
	size := 0
	for k, v := range entries {
		count[k.Table]++
		size += 1 + len(k.Bytes) + len(v)
	}
	if size > m.most {
		m.why = api.Fault{Kind: api.ErrRoom}
	}
	for table := api.Tables - 1; table >= 0; table-- {
		if count[table] > m.room[table] {
			m.why = api.Fault{Kind: api.ErrFull, At: table}
		}
	}
	if m.why.Kind != api.OK {
		m.tell("E", uint64(m.why.Kind))
		return
	}
	m.version, m.entries = version, entries
	m.tell("A", version)
}

// controller sends frames without a plan, but such that states get through.
type controller struct {
	noise
	t     *testing.T
	text  string // of the state that it sends
	count int
}

// near: a version that is mostly the next.
func (c *controller) near(v uint64) uint64 { return v + []uint64{0, 1, 1, 1, 1, 1, 1, 2}[c.below(8)] }

func (c *controller) changes(most int) []api.Op {
	var ops []api.Op
	for range 1 + c.below(most) {
		ops = append(ops, someChange(&c.noise))
	}
	return ops
}

// frame: the next one to an agent of that version, that waits for that piece.
func (c *controller) frame(v uint64, next int) string {
	switch c.below(16) {
	case 0:
		return ask()
	case 1:
		return sealed(byte(c.below(20)), strings.Repeat("\x00", c.below(70)))
	case 2:
		frame := change(c.t, v+1, put(api.Mac, mac, hop))
		return frame[:c.below(len(frame))]
	case 3:
		return c.begins(c.near(v))
	case 4, 5, 6, 7, 8, 9, 10:
		return c.goesOn(next + []int{0, 0, 0, 0, 0, 0, 1, 255}[c.below(8)])
	}
	b, err := overlay.Encode(delta(max(c.near(v), 1), c.changes(api.MaxOps)...))
	if err != nil { // a key twice
		return sealed(api.FrameDelta, one+"?")
	}
	return sealed(api.FrameDelta, string(b))
}

// begins: the begin of a state.
func (c *controller) begins(v uint64) string {
	x := overlay.NewTables()
	for _, op := range c.changes(150) {
		apply(c.t, x, op)
	}
	b, err := overlay.EncodeAll(max(v, 1), x)
	if err != nil {
		c.t.Fatal(err)
	}
	c.text, c.count = string(b), (len(b)+api.MaxPiece-1)/api.MaxPiece
	return begin(v-uint64(c.below(8)/7), byte(c.count))
}

// goesOn: a piece of the state.
func (c *controller) goesOn(n int) string {
	from := min(n*api.MaxPiece, len(c.text))
	to := min(from+api.MaxPiece, len(c.text))
	return piece(byte(n), c.text[from:to])
}

// agrees: does an agent stand where the model stands?
func (m *model) agrees(r *rig) {
	r.t.Helper()
	if m.why.Kind != api.OK {
		expect(r.t, "degraded", r.a.Degraded(), m.why.Kind, m.why.At)
	} else if r.a.Degraded() != nil {
		r.t.Errorf("degraded: %v", r.a.Degraded())
	}
	if r.a.Version() != m.version {
		r.t.Errorf("version %d, want %d", r.a.Version(), m.version)
	}
	want := sorted(m.entries)
	if got := told(r.a.Entries()); !slices.Equal(got, want) {
		r.t.Errorf("%x, want %x", got, want)
	}
	r.p.holds("the datapath", want, r.p.done)
}

func TestP12P13WithoutAPlan(t *testing.T) {
	c := &controller{t: t}
	states, full, noRoom := 0, 0, 0
	for range 100 {
		room := [][api.Tables]int{plenty, plenty, {4, 99, 99}, {99, 15, 99}, {99, 99, 11}}[c.below(5)]
		sectors := api.MinSectors + c.below(2)
		r := started(t, sectors, room)
		m := &model{entries: map[api.Key]string{}, room: room, most: 16 * (sectors - 8)}
		for range 200 {
			frame, before := c.frame(m.version, m.next), m.begun
			if c.below(8) == 0 {
				r.a.Tick()
				m.tick()
			}
			r.a.Receive([]byte(frame))
			m.receive(t, frame)
			if before != 0 && m.begun == 0 && m.version == before {
				states++
			}
			m.agrees(r)
			if c.below(3) == 0 {
				r.tells("without a plan", strings.Join(m.waits, " "))
				m.waits = nil
			}
			if t.Failed() {
				t.Fatalf("behind %x", frame)
			}
		}
		switch m.why.Kind {
		case api.ErrFull:
			full++
		case api.ErrRoom:
			noRoom++
		}
	}
	if states < 100 || full < 10 || noRoom < 10 {
		t.Errorf("the test tries too little: %d states, full %d times, no room %d times", states, full, noRoom)
	}
}
