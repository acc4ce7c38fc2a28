package overlay

import (
	"overlay/api"
	"overlay/entry"
	"overlay/wire"
)

// incoming is a state that comes in pieces. Without pieces it is none.
type incoming struct {
	version uint64
	pieces  int    // how many there are
	next    int    // the one that is to come
	bytes   []byte // of those that came
}

// comes tells whether there are pieces to come.
func (s *incoming) comes() bool { return s.next < s.pieces }

// keep lays the piece that was to come behind the others.
func (s *incoming) keep(piece []byte) {
	s.bytes = append(s.bytes, piece...)
	s.next++
}

// entries is what a state that is whole has.
func (s *incoming) entries() (entry.List, error) {
	v, list, err := wire.DecodeAll(s.bytes)
	if err != nil {
		return nil, err
	}
	if v != s.version {
		return nil, &api.Fault{Kind: api.ErrVersion}
	}
	return list, nil
}
