package overlay_test

import (
	"cmp"
	"iter"
	"maps"
	"math"
	"slices"
	"strings"
	"testing"

	"overlay/api"
	"overlay/overlay"
)

// entry is a key, and a value.
type entry struct {
	key   api.Key
	value string
}

// told: all entries that an iterator tells.
func told(all iter.Seq2[api.Key, string]) []entry {
	var l []entry
	for k, v := range all {
		l = append(l, entry{k, v})
	}
	return l
}

// laid: the entries that puts lay, each of a key of its own, in the order in which they stand here.
func laid(ops ...api.Op) []entry {
	var l []entry
	for _, op := range ops {
		l = append(l, entry{op.Key, op.Value})
	}
	return l
}

// tablesOf: tables to which deltas of these changes were applied.
func tablesOf(t *testing.T, ops ...api.Op) *overlay.Tables {
	t.Helper()
	x := overlay.NewTables()
	for _, op := range ops {
		apply(t, x, op)
	}
	return x
}

// apply: a delta of these changes is applied, without an error.
func apply(t *testing.T, x *overlay.Tables, ops ...api.Op) {
	t.Helper()
	if err := x.Apply(delta(1, ops...)); err != nil {
		t.Fatalf("Apply of %v: %v", ops, err)
	}
}

// holder is what tables and agents have in common.
type holder interface {
	Entries() iter.Seq2[api.Key, string]
	Count(table int) int
	Size() int
	Mac(address string) (string, bool)
	Route(address string) (string, bool)
	Acl(protocol int) (int, bool)
}

// hold: have tables, or an agent, just these entries, in this order, and Count and Size that go with them?
func hold(t *testing.T, what string, x holder, want []entry) {
	t.Helper()
	if got := told(x.Entries()); !slices.Equal(got, want) {
		t.Errorf("%s: %x, want %x", what, got, want)
	}
	var count [api.Tables]int
	size := 0
	for _, e := range want {
		count[e.key.Table]++
		size += [api.Tables]int{11, 10, 5}[e.key.Table]
	}
	for _, table := range oddNumbers {
		n := 0
		if table >= 0 && table < api.Tables {
			n = count[table]
		}
		if x.Count(table) != n {
			t.Errorf("%s: Count(%d) = %d, want %d", what, table, x.Count(table), n)
		}
	}
	if x.Size() != size {
		t.Errorf("%s: Size() = %d, want %d", what, x.Size(), size)
	}
}

func TestP6NewTablesAreEmpty(t *testing.T) {
	x := overlay.NewTables()
	if x == nil {
		t.Fatal("there are none")
	}
	hold(t, "new", x, nil)
	apply(t, x, put(api.Mac, mac, hop))
	hold(t, "new, behind a put into others", overlay.NewTables(), nil)
}

func TestP6PutLaysAndDropTakesAway(t *testing.T) {
	x := overlay.NewTables()
	other := "\x02\x00\x00\x00\x00\x02"
	apply(t, x, put(api.Mac, mac, hop))
	hold(t, "a put", x, laid(put(api.Mac, mac, hop)))
	apply(t, x, put(api.Mac, mac, "\x01\x01\x01\x01"), put(api.Mac, other, hop))
	hold(t, "in place of another, and beside it", x, laid(put(api.Mac, mac, "\x01\x01\x01\x01"), put(api.Mac, other, hop)))
	apply(t, x, drop(api.Mac, mac))
	hold(t, "a drop", x, laid(put(api.Mac, other, hop)))
	apply(t, x, drop(api.Mac, mac), drop(api.Route, route), drop(api.Acl, rule))
	hold(t, "drops of none", x, laid(put(api.Mac, other, hop)))
	apply(t, x, put(api.Mac, mac, hop))
	hold(t, "put again", x, laid(put(api.Mac, mac, hop), put(api.Mac, other, hop)))
	apply(t, x, drop(api.Mac, other), drop(api.Mac, mac))
	hold(t, "all dropped", x, nil)
	apply(t, x, drop(api.Mac, mac))
	hold(t, "a drop of none, and there are none", x, nil)
	apply(t, x, rules(api.MaxOps)...)
	hold(t, "as many changes as may be", x, laid(rules(api.MaxOps)...))
}

func TestP6ApplyOfAnyVersion(t *testing.T) {
	x := overlay.NewTables()
	for i, v := range []uint64{math.MaxUint64 - 1, 1, 5, 5, 2} {
		d := delta(v, put(api.Acl, rule, string([]byte{0, byte(i % 2)})))
		if err := x.Apply(d); err != nil {
			t.Errorf("version %d: %v", v, err)
		}
		hold(t, "a version", x, laid(d.Ops...))
	}
}

// wide: puts in the order of their entries, which is not that of their bytes as signed numbers, or from their ends.
func wide() []api.Op {
	return []api.Op{
		put(api.Mac, "\x00\x00\x00\x00\x00\x00", hop),
		put(api.Mac, "\x00\x00\x00\x00\x00\xff", hop),
		put(api.Mac, "\x00\x00\x00\x00\x01\x00", hop),
		put(api.Mac, "\x7e\xff\xff\xff\xff\xff", hop),
		put(api.Mac, "\x80\x00\x00\x00\x00\x00", hop),
		put(api.Route, "\x00\x00\x00\x00\x00", hop),
		put(api.Route, "\x00\x00\x00\x00\x01", hop),
		put(api.Route, "\x0a\x00\x00\x00\x10", hop),
		put(api.Route, "\x0a\x01\x00\x00\x10", hop),
		put(api.Route, "\xff\xff\xff\xff\x20", hop),
		put(api.Acl, "\x00\x00", "\x00\x00"),
		put(api.Acl, "\x00\xff", "\x00\x01"),
		put(api.Acl, "\x01\x00", "\x06\x00"),
		put(api.Acl, "\xff\xff", "\x11\x01"),
	}
}

func TestP6EntriesAreInTheirOrder(t *testing.T) {
	want := laid(wide()...)
	for step := 1; step < len(want); step++ {
		x, y := overlay.NewTables(), overlay.NewTables()
		for from := range step {
			for i := from; i < len(want); i += step {
				e, f := want[i], want[len(want)-1-i]
				apply(t, x, put(e.key.Table, e.key.Bytes, e.value))
				apply(t, y, put(f.key.Table, f.key.Bytes, f.value))
			}
		}
		hold(t, "laid by steps", x, want)
		hold(t, "laid by steps from the last", y, want)
	}
}

// sameFault: have two errors the same kind and place, and no cause?
func sameFault(t *testing.T, a, b error) bool {
	t.Helper()
	return faultOf(t, a) == faultOf(t, b)
}

func TestP6ApplyHasTheErrorOfEncode(t *testing.T) {
	before := []api.Op{put(api.Mac, mac, hop), put(api.Route, route, hop), put(api.Acl, rule, "\x06\x01")}
	x := tablesOf(t, before...)
	good := drop(api.Mac, mac)
	for _, d := range []api.Delta{
		delta(0, good),
		delta(math.MaxUint64, good),
		delta(0),
		delta(1),
		delta(1, rules(api.MaxOps+1)...),
		delta(1, good, api.Op{Kind: 3, Key: api.Key{Bytes: "\x02\x00\x00\x00\x00\x02"}}),
		delta(1, good, api.Op{}),
		delta(1, good, put(3, mac, hop)),
		delta(1, good, drop(-1, mac)),
		delta(1, good, put(api.Mac, "\x01\x00\x00\x00\x00\x01", hop)),
		delta(1, good, put(api.Route, "\x0a\x01\x00\x00\x08", hop)),
		delta(1, good, drop(api.Acl, "")),
		delta(1, good, put(api.Mac, mac, hop)),
		delta(1, put(api.Acl, rule, "\x00\x00"), good, drop(api.Acl, rule)),
		delta(1, good, put(api.Route, route, "\x00\x00\x00\x00")),
		delta(1, good, put(api.Acl, "\x00\x06", "\x07\x00")),
		delta(1, good, api.Op{Kind: api.Drop, Key: api.Key{Table: api.Acl, Bytes: rule}, Value: "\x06\x01"}),
	} {
		err := x.Apply(d)
		_, want := overlay.Encode(d)
		if !sameFault(t, err, want) {
			t.Errorf("%v: %v, want %v", d, err, want)
		}
		hold(t, "behind an error", x, laid(before...))
	}
}

func TestP6EntriesMayBeStopped(t *testing.T) {
	want := laid(put(api.Mac, mac, hop), put(api.Route, route, hop), put(api.Acl, rule, "\x06\x01"))
	x := tablesOf(t, put(api.Acl, rule, "\x06\x01"), put(api.Route, route, hop), put(api.Mac, mac, hop))
	all := x.Entries()
	for stop := 1; stop <= len(want); stop++ {
		var got []entry
		all(func(k api.Key, v string) bool {
			got = append(got, entry{k, v})
			return len(got) < stop
		})
		if !slices.Equal(got, want[:stop]) {
			t.Errorf("stopped at entry %d: %x", stop, got)
		}
	}
	for range 2 {
		if got := told(all); !slices.Equal(got, want) {
			t.Errorf("gone over again: %x", got)
		}
	}
	n := 0
	for range all {
		n += len(told(all))
	}
	if n != len(want)*len(want) {
		t.Errorf("gone over while it is gone over: %d", n)
	}
}

func TestP6EntriesAreThoseOfTheCall(t *testing.T) {
	ops := rules(api.MaxOps)
	x := tablesOf(t, ops...)
	all := x.Entries()
	var got []entry
	for k, v := range all {
		got = append(got, entry{k, v})
		apply(t, x, drop(k.Table, k.Bytes), put(api.Acl, "\xff"+k.Bytes[1:], v), put(api.Acl, "\x00"+k.Bytes[1:], v))
	}
	if !slices.Equal(got, laid(ops...)) || !slices.Equal(told(all), got) {
		t.Errorf("changes that are made meanwhile are told: %x, then %x", got, told(all))
	}
	if n := x.Count(api.Acl); n != 2*api.MaxOps {
		t.Errorf("behind the changes: %d", n)
	}
}

// someChange: without a plan, but each table and kind, and the same keys again and again.
func someChange(n *noise) api.Op {
	var op api.Op
	low := byte(n.below(6))
	switch n.below(3) {
	case 0:
		op = put(api.Mac, string([]byte{2 * low, 0, 0, 0, 0, low}), string([]byte{10, 0, 0, byte(n.below(256))}))
	case 1:
		length := n.below(33)
		bits := uint32(n.below(1<<24)) << 8 >> (32 - length) << (32 - length)
		op = put(api.Route, string([]byte{byte(bits >> 24), byte(bits >> 16), byte(bits >> 8), byte(bits), byte(length)}), string([]byte{10, 0, 1, byte(n.below(256))}))
	default:
		op = put(api.Acl, string([]byte{low, byte(n.below(3))}), string([]byte{[]byte{0, 6, 17}[n.below(3)], byte(n.below(2))}))
	}
	if n.below(3) == 0 {
		op = drop(op.Key.Table, op.Key.Bytes)
	}
	return op
}

// inOrder: entries by table and key.
func inOrder(l []entry) []entry {
	return slices.SortedFunc(slices.Values(l), func(a, b entry) int {
		return cmp.Or(cmp.Compare(a.key.Table, b.key.Table), strings.Compare(a.key.Bytes, b.key.Bytes))
	})
}

// sorted: the entries of a map, in their order.
func sorted(m map[api.Key]string) []entry { return inOrder(told(maps.All(m))) }

func TestP6TablesAreAsAMap(t *testing.T) {
	var n noise
	x, m := overlay.NewTables(), map[api.Key]string{}
	for range 1500 {
		d := delta(1)
		for range 1 + n.below(api.MaxOps) {
			d.Ops = append(d.Ops, someChange(&n))
		}
		_, want := overlay.Encode(d)
		if err := x.Apply(d); (err == nil) != (want == nil) {
			t.Fatalf("%v: %v, want %v", d, err, want)
		}
		if want != nil {
			continue // the tables stay, and so does the map
		}
		for _, op := range d.Ops {
			if op.Kind == api.Put {
				m[op.Key] = op.Value
			} else {
				delete(m, op.Key)
			}
		}
		hold(t, "without a plan", x, sorted(m))
	}
}

func TestP2ApplyKeepsAndWritesNothing(t *testing.T) {
	ops := make([]api.Op, 2, api.MaxOps)
	ops[0], ops[1] = put(api.Route, route, hop), put(api.Mac, mac, hop)
	before := slices.Clone(ops[:api.MaxOps])
	x := overlay.NewTables()
	apply(t, x, ops...)
	if !slices.Equal(ops[:api.MaxOps], before) {
		t.Errorf("changes were written into: %v", ops[:api.MaxOps])
	}
	clear(ops)
	hold(t, "behind changes that are written over", x, laid(before[1], before[0]))
}
