// Package store: what lasts on a disk.
package store

import "overlay/api"

// Entries may take so many bytes of each sector but these: the rest is for keeping them over every stop.
const (
	sectorRoom   = 16
	spareSectors = 8
)

// Read is all sectors of a disk.
func Read(d api.Disk) ([][]byte, error) {
	if d == nil { // no call may panic: no disk is taken for one that fails
		return nil, &api.Fault{Kind: api.ErrDisk}
	}
	var sectors [][]byte
	for n := range d.Sectors() {
		s, err := d.Read(n)
		if err != nil {
			return nil, &api.Fault{Kind: api.ErrDisk, Cause: err}
		}
		sectors = append(sectors, s)
	}
	return sectors, nil
}

// Room is how many bytes entries may have in all on a disk of so many sectors.
func Room(sectors int) int { return sectorRoom * (sectors - spareSectors) }
