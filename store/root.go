package store

// root tells what of a disk holds. That of a disk of noughts tells of the first area, in which there is no state, and of no deltas.
type root struct {
	area   int // the one with the state
	deltas int // how many of the log come behind it
}

// bytes is what stands in the root's sector.
func (r root) bytes() []byte { return []byte{byte(r.area), byte(r.deltas)} }

// rootOf is the root that stands in a sector.
func rootOf(sector []byte) root { return root{area: int(sector[0]), deltas: int(sector[1])} }

// isOf tells whether a disk of a layout has what a root tells of.
func (r root) isOf(l layout) bool { return r.area < areas && r.deltas <= l.slots }

// withDelta is the root that tells of one delta more.
func (r root) withDelta() root { return root{area: r.area, deltas: r.deltas + 1} }

// withState is the root that tells of a state in the other area, and of nothing behind it.
func (r root) withState() root { return root{area: (r.area + 1) % areas} }
