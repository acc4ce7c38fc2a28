// Package datapath brings a datapath to entries.
package datapath

import (
	"overlay/api"
	"overlay/entry"
)

// Reconcile brings a datapath to a list of entries, or, if it has not the room, does nothing.
func Reconcile(p api.Datapath, want entry.List) error {
	if err := Full(p, want); err != nil {
		return err
	}
	Bring(p, want)
	return nil
}

// Bring brings a datapath to a list of entries for which it has the room. What is taken away comes ahead of what is laid, so that its room is free by then.
func Bring(p api.Datapath, want entry.List) {
	there := held(p)
	dropOthers(p, there, want)
	putMissing(p, there, want)
}

// Full is ErrFull and the first table that has more entries than a datapath has room for; nil, if there is none.
func Full(p api.Datapath, want entry.List) error {
	for table := range api.Tables {
		if want.Count(table) > room(p, table) {
			return &api.Fault{Kind: api.ErrFull, At: table}
		}
	}
	return nil
}

// room is how many entries a table of a datapath takes. No call may panic: no datapath is taken for one without room.
func room(p api.Datapath, table int) int {
	if p == nil {
		return 0
	}
	return p.Room(table)
}

// held is what a datapath holds: nothing, if there is none.
func held(p api.Datapath) entry.List {
	if p == nil {
		return nil
	}
	return entry.Ordered(p.Dump())
}

// dropOthers takes away the entries that are there, and whose keys are not wanted.
func dropOthers(p api.Datapath, there, want entry.List) {
	for k := range there.All() {
		if _, wanted := want.Value(k); !wanted {
			p.Drop(k)
		}
	}
}

// putMissing lays the entries that are wanted, and are not there with that value.
func putMissing(p api.Datapath, there, want entry.List) {
	for k, v := range want.All() {
		if old, found := there.Value(k); !found || old != v {
			p.Put(k, v)
		}
	}
}
