package overlay_test

import (
	"iter"
	"math"
	"slices"
	"strings"
	"testing"

	"overlay/api"
	"overlay/overlay"
)

// path is a datapath that tells its entries in the order in which they stand here, writes down what is done to it, and takes nothing where there is no room.
type path struct {
	room    [api.Tables]int
	entries []entry
	done    []api.Op
	left    int // so many puts and drops more are done (below 0: all)
	dumping int // how many go over its entries just now
	t       *testing.T
}

var plenty = [api.Tables]int{math.MaxInt, math.MaxInt, math.MaxInt}

// pathOf: a datapath of that room, with these entries.
func pathOf(t *testing.T, room [api.Tables]int, entries []entry) *path {
	return &path{room: room, entries: slices.Clone(entries), left: -1, t: t}
}

func (p *path) Room(table int) int {
	if table < 0 || table >= api.Tables {
		p.t.Errorf("asked for the room of %d, which is no table", table)
		return 0
	}
	return p.room[table]
}

// stopped: one change more: has it all stopped?
func (p *path) stopped(op api.Op) bool {
	if p.dumping > 0 {
		p.t.Errorf("%x comes while what it holds is gone over", op)
	}
	if p.left == 0 {
		return true
	}
	p.left--
	p.done = append(p.done, op)
	return false
}

// find: the place of a key, or -1.
func (p *path) find(k api.Key) int {
	return slices.IndexFunc(p.entries, func(e entry) bool { return e.key == k })
}

func (p *path) Put(k api.Key, value string) {
	if p.stopped(put(k.Table, k.Bytes, value)) {
		return
	}
	n := 0
	for _, e := range p.entries {
		if e.key.Table == k.Table {
			n++
		}
	}
	if i := p.find(k); i >= 0 {
		p.entries[i].value = value
	} else if n < p.Room(k.Table) {
		p.entries = append(p.entries, entry{k, value})
	} else {
		p.t.Errorf("no room for %x", k)
	}
}

func (p *path) Drop(k api.Key) {
	if p.stopped(drop(k.Table, k.Bytes)) {
		return
	}
	if i := p.find(k); i >= 0 {
		p.entries = slices.Delete(p.entries, i, i+1)
	} else {
		p.t.Errorf("dropped, but not there: %x", k)
	}
}

func (p *path) Dump() iter.Seq2[api.Key, string] {
	return func(yield func(api.Key, string) bool) {
		p.dumping++
		defer func() { p.dumping-- }()
		for _, e := range p.entries {
			if !yield(e.key, e.value) {
				return
			}
		}
	}
}

// holds: does a datapath hold just these entries (in any order), and was just this done to it?
func (p *path) holds(what string, entries []entry, done []api.Op) {
	p.t.Helper()
	if !slices.Equal(inOrder(p.entries), inOrder(entries)) {
		p.t.Errorf("%s: it holds %x, want %x", what, inOrder(p.entries), inOrder(entries))
	}
	if !slices.Equal(p.done, done) {
		p.t.Errorf("%s: done: %x, want %x", what, p.done, done)
	}
}

// orders: a list as it is, from its end, and from each other place in turn.
func orders(l []entry) [][]entry {
	back := slices.Clone(l)
	slices.Reverse(back)
	all := [][]entry{l, back}
	for i := range l {
		all = append(all, slices.Concat(l[i:], l[:i]))
	}
	return all
}

// becomes: is a datapath of these entries, told in whatever order, brought to tables by just these changes?
func becomes(t *testing.T, what string, old []entry, want *overlay.Tables, done ...api.Op) {
	t.Helper()
	last := told(want.Entries())
	for _, l := range orders(old) {
		p := pathOf(t, plenty, l)
		expect(t, what, overlay.Reconcile(p, want), api.OK, 0)
		p.holds(what, last, done)
		expect(t, what+", again", overlay.Reconcile(p, want), api.OK, 0)
		p.holds(what+", again", last, done)
	}
	hold(t, what+": the tables", want, last)
}

func TestP9WhatIsMissingIsPut(t *testing.T) {
	some := []api.Op{put(api.Mac, mac, hop), put(api.Route, route, hop), put(api.Acl, rule, "\x06\x01")}
	becomes(t, "nothing to nothing", nil, overlay.NewTables())
	becomes(t, "nothing to some", nil, tablesOf(t, some[2], some[0], some[1]), some...)
	for i, op := range some {
		becomes(t, "one is missing", laid(slices.Delete(slices.Clone(some), i, i+1)...), tablesOf(t, some...), op)
	}
	becomes(t, "none is missing", laid(some...), tablesOf(t, some...))
}

func TestP9WhatHasAnotherValueIsPut(t *testing.T) {
	for _, c := range []struct {
		now    api.Op
		others []string
	}{
		{put(api.Mac, mac, hop), []string{"\x0a\x00\x00\x02", "\x0b\x00\x00\x01", "\x00\x00\x00\x00", hop[:3], hop + "\x00", ""}},
		{put(api.Route, route, hop), []string{"\x0a\x00\x00\x00", "\x0a\x01\x00\x01", "\x0a", ""}},
		{put(api.Acl, rule, "\x06\x01"), []string{"\x06\x00", "\x11\x01", "\x00\x01", "\x07\x01", "\x06\x01\x00", "\x06", ""}},
	} {
		for _, other := range c.others {
			becomes(t, "another value", []entry{{c.now.Key, other}}, tablesOf(t, c.now), c.now)
		}
	}
}

func TestP9WhatHasNoKeyIsDropped(t *testing.T) {
	becomes(t, "all of it", laid(put(api.Mac, mac, hop), put(api.Route, route, hop), put(api.Acl, rule, "\x06\x01")), overlay.NewTables(), drop(api.Mac, mac), drop(api.Route, route), drop(api.Acl, rule))
	kept := put(api.Mac, mac, hop)
	becomes(t, "one beside another", laid(kept, put(api.Mac, "\x02\x00\x00\x00\x00\x02", hop)), tablesOf(t, kept), drop(api.Mac, "\x02\x00\x00\x00\x00\x02"))
	becomes(t, "the same bytes in other tables", laid(put(api.Route, mac, hop), kept, put(api.Acl, mac, hop)), tablesOf(t, kept), drop(api.Route, mac), drop(api.Acl, mac))
}

func TestP9WhatMayNotBeIsDropped(t *testing.T) {
	var old []entry
	var done []api.Op
	for _, table := range oddNumbers {
		keys := []string{"", "\x00", "\x01\x00\x00\x00\x00\x00", mac[:5], mac + "\x00", "odd", strings.Repeat("\xff", 300)}
		slices.Sort(keys)
		for _, k := range keys {
			old = append(old, entry{api.Key{Table: table, Bytes: k}, "odd"})
			done = append(done, drop(table, k))
		}
	}
	kept := put(api.Mac, mac, hop)
	becomes(t, "keys that may not be", append(laid(kept), old...), tablesOf(t, kept), done...)
	becomes(t, "keys that may not be, and one is missing", old, tablesOf(t, kept), append(done, kept)...)
}

func TestP9BothAreInTheirOrder(t *testing.T) {
	all := wide()
	var drops []api.Op
	for _, op := range all {
		drops = append(drops, drop(op.Key.Table, op.Key.Bytes))
	}
	back := slices.Clone(all)
	slices.Reverse(back)
	becomes(t, "all are dropped", laid(all...), overlay.NewTables(), drops...)
	becomes(t, "all are put", nil, tablesOf(t, back...), all...)
	for step := 2; step < 5; step++ { // each step-th is there, the others are to be there
		var old, want, done []api.Op
		for i, op := range all {
			if i%step == 0 {
				old, done = append(old, op), append(done, drops[i])
			} else {
				want = append(want, op)
			}
		}
		becomes(t, "drops, then puts", laid(old...), tablesOf(t, want...), append(done, want...)...)
	}
}

func TestP9DropsMakeRoomForPuts(t *testing.T) {
	room := [api.Tables]int{1, 2, 1}
	old := laid(put(api.Mac, "\xfe\x00\x00\x00\x00\x00", hop), put(api.Route, "\xf0\x00\x00\x00\x04", hop), put(api.Route, "\xff\x00\x00\x00\x08", hop), put(api.Acl, "\xff\xff", "\x00\x00"))
	want := []api.Op{put(api.Mac, mac, hop), put(api.Route, "\x00\x00\x00\x00\x00", hop), put(api.Route, route, hop), put(api.Acl, rule, "\x00\x01")}
	for _, l := range orders(old) {
		p := pathOf(t, room, l)
		expect(t, "just enough room", overlay.Reconcile(p, tablesOf(t, want...)), api.OK, 0)
		p.holds("just enough room", laid(want...), append([]api.Op{drop(api.Mac, "\xfe\x00\x00\x00\x00\x00"), drop(api.Route, "\xf0\x00\x00\x00\x04"), drop(api.Route, "\xff\x00\x00\x00\x08"), drop(api.Acl, "\xff\xff")}, want...))
	}
}

// many: so many entries of a table.
func many(table, n int) []api.Op {
	var ops []api.Op
	for i := range n {
		switch table {
		case api.Mac:
			ops = append(ops, put(table, "\x02\x00\x00\x00\x00"+string([]byte{byte(i)}), hop))
		case api.Route:
			ops = append(ops, put(table, "\x0a\x00\x00"+string([]byte{byte(i), 32}), hop))
		default:
			ops = append(ops, put(table, string([]byte{0, byte(i)}), "\x00\x01"))
		}
	}
	return ops
}

func TestP9Full(t *testing.T) {
	old := laid(put(api.Mac, mac, "\x09\x09\x09\x09"), put(api.Acl, rule, "\x06\x01"), put(7, "odd", "odd"))
	for code := range 4 * 4 * 4 {
		n := [api.Tables]int{code % 4, code / 4 % 4, code / 16}
		x := tablesOf(t, slices.Concat(many(api.Mac, n[0]), many(api.Route, n[1]), many(api.Acl, n[2]))...)
		for code := range 4 * 4 * 4 {
			p := pathOf(t, [api.Tables]int{code % 4, code / 4 % 4, code / 16}, old)
			at := 0
			for at < api.Tables && n[at] <= p.room[at] {
				at++
			}
			err := overlay.Reconcile(p, x)
			if at == api.Tables {
				expect(t, "room enough", err, api.OK, 0)
				p.holds("room enough", told(x.Entries()), p.done)
				continue
			}
			expect(t, "too little room", err, api.ErrFull, at)
			p.holds("too little room", old, nil)
		}
	}
}

func TestP9RoomCountsTheTablesAndNotWhatIsThere(t *testing.T) {
	there := slices.Concat(many(api.Mac, 9), many(api.Route, 9), many(api.Acl, 9))
	p := pathOf(t, [api.Tables]int{}, laid(there...))
	expect(t, "no room, and nothing to lay", overlay.Reconcile(p, overlay.NewTables()), api.OK, 0)
	p.holds("no room, and nothing to lay", nil, p.done)
	p = pathOf(t, [api.Tables]int{8, 9, 9}, laid(there...))
	expect(t, "all is there, and too little room", overlay.Reconcile(p, tablesOf(t, there...)), api.ErrFull, api.Mac)
	p.holds("all is there, and too little room", laid(there...), nil)
}

func TestP9StoppedAndAgain(t *testing.T) {
	all := wide()
	old := laid(all[0], all[3], all[6], all[9], all[12], put(api.Mac, mac, hop), put(api.Acl, rule, "\x00\x00"))
	old[1].value = "\x01\x01\x01\x01"
	want := tablesOf(t, all[1], all[3], all[5], all[7], all[9], all[11], all[13])
	whole := pathOf(t, plenty, old)
	expect(t, "not stopped", overlay.Reconcile(whole, want), api.OK, 0)
	for stop := range len(whole.done) + 2 {
		p := pathOf(t, plenty, old)
		p.left = stop
		expect(t, "stopped", overlay.Reconcile(p, want), api.OK, 0)
		p.holds("stopped", p.entries, whole.done[:min(stop, len(whole.done))])
		p.left = -1
		expect(t, "again", overlay.Reconcile(p, want), api.OK, 0)
		p.holds("again", told(want.Entries()), whole.done)
	}
}

// steps: what brings entries to others, by the promise's words.
func steps(old, want []entry) []api.Op {
	var done []api.Op
	for _, e := range inOrder(old) {
		if !slices.ContainsFunc(want, func(w entry) bool { return w.key == e.key }) {
			done = append(done, drop(e.key.Table, e.key.Bytes))
		}
	}
	for _, w := range inOrder(want) {
		if !slices.Contains(old, w) {
			done = append(done, put(w.key.Table, w.key.Bytes, w.value))
		}
	}
	return done
}

// meddle: something else takes an entry of a datapath away, gives one another value, lays one, and turns their order.
func (p *path) meddle(n *noise) {
	if last := len(p.entries) - 1; last >= 0 {
		i, j := n.below(last+1), n.below(last+1)
		p.entries[i].value = four(uint32(n.below(2)))
		p.entries[j], p.entries[last] = p.entries[last], p.entries[j]
		p.entries = p.entries[:last]
	}
	k := api.Key{Table: n.below(5) - 1, Bytes: string([]byte{byte(n.below(256)), byte(n.below(256))})}
	if p.find(k) < 0 {
		p.entries = append(p.entries, entry{k, "odd"})
	}
	slices.Reverse(p.entries)
}

func TestP9WithoutAPlan(t *testing.T) {
	var n noise
	x := overlay.NewTables()
	p := pathOf(t, plenty, nil)
	for range 1000 {
		if n.below(8) == 0 {
			x = overlay.NewTables()
		}
		for range n.below(20) {
			apply(t, x, someChange(&n))
		}
		old, want := slices.Clone(p.entries), told(x.Entries())
		p.done = nil
		expect(t, "without a plan", overlay.Reconcile(p, x), api.OK, 0)
		p.holds("without a plan", want, steps(old, want))
		for range n.below(10) {
			p.meddle(&n)
		}
	}
}

func TestP9TablesStayAndAreNotKept(t *testing.T) {
	x := tablesOf(t, wide()...)
	p := pathOf(t, plenty, laid(put(api.Mac, mac, hop)))
	expect(t, "some tables", overlay.Reconcile(p, x), api.OK, 0)
	hold(t, "behind Reconcile", x, laid(wide()...))
	apply(t, x, drop(api.Acl, "\x00\xff"), put(api.Mac, mac, hop))
	p.holds("behind changes of the tables", laid(wide()...), p.done)
}

func TestP1ReconcileOfNothing(t *testing.T) {
	expect(t, "no datapath, no tables", overlay.Reconcile(nil, nil), api.OK, 0)
	expect(t, "no datapath, no entries", overlay.Reconcile(nil, overlay.NewTables()), api.OK, 0)
	expect(t, "no datapath", overlay.Reconcile(nil, tablesOf(t, put(api.Route, route, hop), put(api.Acl, rule, "\x00\x00"))), api.ErrFull, api.Route)
	p := pathOf(t, plenty, laid(put(api.Mac, mac, hop)))
	expect(t, "no tables", overlay.Reconcile(p, nil), api.OK, 0)
	p.holds("no tables", nil, []api.Op{drop(api.Mac, mac)})
}
