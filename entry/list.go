package entry

import (
	"cmp"
	"iter"
	"slices"
	"strings"

	"overlay/api"
)

// Entry is a key of a table, and a value.
type Entry struct {
	Key   api.Key
	Value string
}

// Compare tells in which order two keys stand: below 0, if a stands ahead of b; 0, if they are the same.
func Compare(a, b api.Key) int {
	return cmp.Or(cmp.Compare(a.Table, b.Table), strings.Compare(a.Bytes, b.Bytes))
}

// List is entries in their order, each of a key of its own. No list is changed once it is made, so that one who goes over it is not disturbed by later changes.
type List []Entry

// Ordered is a list of entries that are told in any order.
func Ordered(all iter.Seq2[api.Key, string]) List {
	var l List
	for k, v := range all {
		l = append(l, Entry{Key: k, Value: v})
	}
	slices.SortFunc(l, func(a, b Entry) int { return Compare(a.Key, b.Key) })
	return l
}

// find is the place of a key, or the one at which it would stand.
func (l List) find(k api.Key) (int, bool) {
	return slices.BinarySearchFunc(l, k, func(e Entry, k api.Key) int { return Compare(e.Key, k) })
}

// Value is that of a key, if there is one.
func (l List) Value(k api.Key) (string, bool) {
	i, found := l.find(k)
	if !found {
		return "", false
	}
	return l[i].Value, true
}

// After is a new list: this one, with changes made.
func (l List) After(ops []api.Op) List {
	l = slices.Clone(l)
	for _, op := range ops {
		l = l.changed(op)
	}
	return l
}

// changed makes a change, in the list's own memory.
func (l List) changed(op api.Op) List {
	i, found := l.find(op.Key)
	if found {
		l = slices.Delete(l, i, i+1)
	}
	if op.Kind == api.Drop {
		return l
	}
	return slices.Insert(l, i, laid(op))
}

// laid is the entry that a Put lays. Its texts are copies: what is handed in, and what that is a piece of, is not kept.
func laid(op api.Op) Entry {
	k := api.Key{Table: op.Key.Table, Bytes: strings.Clone(op.Key.Bytes)}
	return Entry{Key: k, Value: strings.Clone(op.Value)}
}

// All goes over the entries.
func (l List) All() iter.Seq2[api.Key, string] {
	return func(yield func(api.Key, string) bool) {
		for _, e := range l {
			if !yield(e.Key, e.Value) {
				return
			}
		}
	}
}

// Count is how many entries a table has.
func (l List) Count(table int) int {
	n := 0
	for k := range l.All() {
		if k.Table == table {
			n++
		}
	}
	return n
}

// Size is the sum over all entries of 1, and the bytes of key and value.
func (l List) Size() int {
	n := 0
	for k, v := range l.All() {
		n += 1 + len(k.Bytes) + len(v)
	}
	return n
}
