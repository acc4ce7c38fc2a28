// Package store: what lasts on a disk, over every stop.
//
// A state and the deltas behind it stand on the disk, and a root, a sector that tells which. What a new root tells of is written where the old one tells of nothing, and flushed ahead of the new root; that is flushed ahead of all that comes next. So, whichever of the writes have taken hold when all stops, there is the old root with all that it tells of, or the new one with all that it tells of, and nothing is to be told from the sectors themselves.
package store

import (
	"overlay/api"
	"overlay/entry"
	"overlay/wire"
)

// Store is a disk, and what on it holds.
type Store struct {
	disk   api.Disk
	layout layout
	root   root
}

// Open reads the version and the entries that a disk holds.
func Open(d api.Disk) (*Store, uint64, entry.List, error) {
	if d == nil { // no call may panic: no disk is taken for one that is broken
		return nil, 0, nil, broken()
	}
	s := &Store{disk: d, layout: layoutOf(d.Sectors())}
	if !s.layout.isUsed() {
		return s, 0, nil, nil
	}
	version, list, err := s.load()
	if err != nil {
		return nil, 0, nil, err
	}
	return s, version, list, nil
}

// Room is how many bytes entries may have in all.
func (s *Store) Room() int { return s.layout.room }

// KeepDelta keeps a delta's bytes. It is the one that leads to a version and entries: where the log is full, these are kept in its place.
func (s *Store) KeepDelta(delta []byte, version uint64, after entry.List) error {
	if s.root.deltas == s.layout.slots {
		return s.KeepState(version, after)
	}
	return s.keep(s.layout.slot(s.root.deltas), delta, s.root.withDelta())
}

// KeepState keeps a version and its entries, in place of all that was kept ahead of them.
func (s *Store) KeepState(version uint64, list entry.List) error {
	state, err := wire.EncodeAll(version, list)
	if err != nil {
		return err
	}
	next := s.root.withState()
	return s.keep(s.layout.area(next.area), state, next)
}

// keep lays a record from a sector on, and then the root that tells of it.
func (s *Store) keep(sector int, record []byte, next root) error {
	if err := s.writeRecord(sector, record); err != nil {
		return err
	}
	if err := s.write(rootSector, next.bytes()); err != nil {
		return err
	}
	s.root = next
	return nil
}

// load reads the root, and the version and the entries that it tells of. It flushes first: an agent ahead of this one may have ended with writes under way, and what is found now must be found by every later one, too.
func (s *Store) load() (uint64, entry.List, error) {
	if err := s.disk.Flush(); err != nil {
		return 0, nil, failed(err)
	}
	sector, err := s.read(rootSector)
	if err != nil {
		return 0, nil, err
	}
	s.root = rootOf(sector)
	if !s.root.isOf(s.layout) {
		return 0, nil, broken()
	}
	version, list, err := s.state()
	if err != nil {
		return 0, nil, err
	}
	return s.behind(version, list)
}

// state is the version and the entries that the root's area holds.
func (s *Store) state() (uint64, entry.List, error) {
	b, err := s.readRecord(s.layout.area(s.root.area), s.layout.areaSectors)
	if err != nil || len(b) == 0 {
		return 0, nil, err
	}
	version, list, err := wire.DecodeAll(b)
	if err != nil {
		return 0, nil, broken()
	}
	return version, list, nil
}

// behind is the version and the entries behind the deltas of the log.
func (s *Store) behind(version uint64, list entry.List) (uint64, entry.List, error) {
	for n := range s.root.deltas {
		b, err := s.readRecord(s.layout.slot(n), slotSectors)
		if err != nil {
			return 0, nil, err
		}
		d, err := wire.Decode(b)
		if err != nil || d.Version != version+1 {
			return 0, nil, broken()
		}
		version, list = d.Version, list.After(d.Ops)
	}
	return version, list, nil
}
