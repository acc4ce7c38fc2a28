package wire

import (
	"math"

	"overlay/api"
	"overlay/entry"
)

const versionBytes = 8

// isVersion tells whether a delta may have a version: 0 is that of an agent that has taken none in yet, and the greatest has none behind it.
func isVersion(v uint64) bool { return v > 0 && v < math.MaxUint64 }

// isCount tells whether a delta may have so many changes.
func isCount(n int) bool { return n >= 1 && n <= api.MaxOps }

// isKind tells whether a change may be of that kind, and of that table.
func isKind(kind, table int) bool {
	return (kind == api.Put || kind == api.Drop) && entry.IsTable(table)
}

// changed tells whether one of some changes is of a key.
func changed(ops []api.Op, k api.Key) bool {
	for _, op := range ops {
		if op.Key == k {
			return true
		}
	}
	return false
}

// valueFits tells whether a change has the value that its kind asks for.
func valueFits(op api.Op) bool {
	if op.Kind == api.Drop {
		return op.Value == ""
	}
	return entry.IsValue(op.Key.Table, op.Value)
}

// wrong is why a change may not stand behind earlier ones; OK, if it may.
func wrong(op api.Op, earlier []api.Op) api.Errno {
	switch {
	case !isKind(op.Kind, op.Key.Table):
		return api.ErrKind
	case !entry.IsKey(op.Key):
		return api.ErrKey
	case changed(earlier, op.Key):
		return api.ErrTwice
	case !valueFits(op):
		return api.ErrValue
	}
	return api.OK
}

// Check is why a delta may not be, if so.
func Check(d api.Delta) error {
	if !isVersion(d.Version) {
		return fault(api.ErrVersion, 0)
	}
	if !isCount(len(d.Ops)) {
		return fault(api.ErrCount, 0)
	}
	for i, op := range d.Ops {
		if kind := wrong(op, d.Ops[:i]); kind != api.OK {
			return fault(kind, i)
		}
	}
	return nil
}

// Encode tells a delta as bytes.
func Encode(d api.Delta) ([]byte, error) {
	if err := Check(d); err != nil {
		return nil, err
	}
	b := AppendNumber(nil, d.Version, versionBytes)
	b = append(b, byte(len(d.Ops)))
	for _, op := range d.Ops {
		b = append(b, byte(op.Kind))
		b = appendEntry(b, op.Key, op.Value)
	}
	return b, nil
}

// Decode tells the delta that bytes are.
func Decode(b []byte) (api.Delta, error) {
	r := &reader{bytes: b}
	d, err := r.delta()
	if err == nil {
		err = r.done()
	}
	if err != nil {
		return api.Delta{}, err
	}
	return d, nil
}

// delta is the pieces that a delta has.
func (r *reader) delta() (api.Delta, error) {
	var d api.Delta
	version, err := r.version()
	if err != nil {
		return d, err
	}
	count, err := r.count()
	if err != nil {
		return d, err
	}
	d.Version = version
	for range count {
		op, err := r.change(d.Ops)
		if err != nil {
			return d, err
		}
		d.Ops = append(d.Ops, op)
	}
	return d, nil
}

// count is the next piece, how many changes a delta has.
func (r *reader) count() (int, error) {
	p, err := r.piece(1)
	if err != nil {
		return 0, err
	}
	n := int(p[0])
	if !isCount(n) {
		return 0, r.fault(api.ErrCount)
	}
	return n, nil
}

// change is the pieces that a change has, behind earlier ones.
func (r *reader) change(earlier []api.Op) (api.Op, error) {
	p, err := r.piece(2)
	if err != nil {
		return api.Op{}, err
	}
	kind, table := int(p[0]), int(p[1])
	if !isKind(kind, table) {
		return api.Op{}, r.fault(api.ErrKind)
	}
	key, err := r.key(table)
	if err != nil {
		return api.Op{}, err
	}
	if changed(earlier, key) {
		return api.Op{}, r.fault(api.ErrTwice)
	}
	op := api.Op{Kind: kind, Key: key}
	if kind == api.Put {
		op.Value, err = r.value(table)
	}
	return op, err
}
