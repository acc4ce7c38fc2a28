package store

import (
	"overlay/api"
	"overlay/wire"
)

const (
	rootSector  = 0
	areas       = 2 // one for the state that holds, one for the next
	slotSectors = 2 // the longest delta, and its length, need no more
	mostSlots   = 255
	mostSectors = 1 << 14 // far more than a disk has: a state tells in two bytes how many entries there are

	// Entries may take so many bytes of each sector but the spare ones: the rest is for keeping them over every stop.
	sectorRoom   = 16
	spareSectors = 8
)

// layout is where things stand on a disk: behind the root the areas, behind these the log, in slots of a delta each.
type layout struct {
	room        int // how many bytes entries may have in all
	areaSectors int
	slots       int
}

// layoutOf is the layout of a disk of so many sectors.
func layoutOf(sectors int) layout {
	sectors = min(max(sectors, 0), mostSectors)
	room := sectorRoom * (sectors - spareSectors)
	area := (lengthBytes + wire.StateHead + room + api.SectorSize - 1) / api.SectorSize
	log := sectors - (rootSector + 1) - areas*area
	return layout{room: room, areaSectors: area, slots: min(log/slotSectors, mostSlots)}
}

// isUsed tells whether anything may be kept on the disk at all: there are fewer sectors than spare ones, if not.
func (l layout) isUsed() bool { return l.room >= 0 }

// area is the sector at which an area begins.
func (l layout) area(n int) int { return rootSector + 1 + n*l.areaSectors }

// slot is the sector at which a slot of the log begins.
func (l layout) slot(n int) int { return l.area(areas) + n*slotSectors }
