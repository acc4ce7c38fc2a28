package store

import (
	"slices"

	"overlay/api"
	"overlay/wire"
)

// A record is bytes over sectors that stand one behind the other. Its length comes first: sectors of an older one may stand behind it.
const lengthBytes = 4

// failed is the error of a call of the disk that has failed; nil, if it has not.
func failed(err error) error {
	if err == nil {
		return nil
	}
	return &api.Fault{Kind: api.ErrDisk, Cause: err}
}

// broken is the error of a disk on which stands what no agent has written, or of none.
func broken() error { return &api.Fault{Kind: api.ErrDisk} }

// write lays bytes into a sector, and those that come next, and waits till they have taken hold.
func (s *Store) write(sector int, b []byte) error {
	for data := range slices.Chunk(b, api.SectorSize) {
		if err := s.disk.Write(sector, data); err != nil {
			return failed(err)
		}
		sector++
	}
	return failed(s.disk.Flush())
}

// read is a sector, whatever length the disk gives it.
func (s *Store) read(sector int) ([]byte, error) {
	b, err := s.disk.Read(sector)
	if err != nil {
		return nil, failed(err)
	}
	whole := make([]byte, api.SectorSize)
	copy(whole, b)
	return whole, nil
}

// writeRecord lays a record from a sector on.
func (s *Store) writeRecord(sector int, record []byte) error {
	b := wire.AppendNumber(nil, uint64(len(record)), lengthBytes)
	return s.write(sector, append(b, record...))
}

// readRecord is the record that stands from a sector on, within so many sectors. Where nothing was ever written it is empty.
func (s *Store) readRecord(sector, sectors int) ([]byte, error) {
	b, err := s.read(sector)
	if err != nil {
		return nil, err
	}
	end := lengthBytes + int(wire.Number(b[:lengthBytes]))
	if end > sectors*api.SectorSize {
		return nil, broken()
	}
	for len(b) < end {
		sector++
		more, err := s.read(sector)
		if err != nil {
			return nil, err
		}
		b = append(b, more...)
	}
	return b[lengthBytes:end], nil
}
