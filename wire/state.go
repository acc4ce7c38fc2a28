package wire

import (
	"overlay/api"
	"overlay/entry"
)

const (
	entriesBytes = 2

	// StateHead is how many bytes of a state come ahead of its entries.
	StateHead = versionBytes + entriesBytes
)

// appendEntry lays an entry's table, key and value behind b.
func appendEntry(b []byte, k api.Key, value string) []byte {
	b = append(b, byte(k.Table))
	b = append(b, k.Bytes...)
	return append(b, value...)
}

// EncodeAll tells a version and entries as bytes.
func EncodeAll(v uint64, l entry.List) ([]byte, error) {
	if !isVersion(v) {
		return nil, fault(api.ErrVersion, 0)
	}
	b := AppendNumber(nil, v, versionBytes)
	b = AppendNumber(b, uint64(len(l)), entriesBytes)
	for k, value := range l.All() {
		b = appendEntry(b, k, value)
	}
	return b, nil
}

// DecodeAll tells the version and the entries that bytes are.
func DecodeAll(b []byte) (uint64, entry.List, error) {
	r := &reader{bytes: b}
	v, l, err := r.state()
	if err == nil {
		err = r.done()
	}
	if err != nil {
		return 0, nil, err
	}
	return v, l, nil
}

// state is the pieces that a state has.
func (r *reader) state() (uint64, entry.List, error) {
	v, err := r.version()
	if err != nil {
		return 0, nil, err
	}
	count, err := r.piece(entriesBytes)
	if err != nil {
		return 0, nil, err
	}
	var l entry.List
	for range Number(count) {
		e, err := r.entry(l)
		if err != nil {
			return 0, nil, err
		}
		l = append(l, e)
	}
	return v, l, nil
}

// entry is the pieces that an entry has, behind earlier ones.
func (r *reader) entry(earlier entry.List) (entry.Entry, error) {
	table, err := r.table()
	if err != nil {
		return entry.Entry{}, err
	}
	key, err := r.key(table)
	if err != nil {
		return entry.Entry{}, err
	}
	if !standsBehind(key, earlier) {
		return entry.Entry{}, r.fault(api.ErrOrder)
	}
	value, err := r.value(table)
	return entry.Entry{Key: key, Value: value}, err
}

// table is the next piece, an entry's table.
func (r *reader) table() (int, error) {
	p, err := r.piece(1)
	if err != nil {
		return 0, err
	}
	table := int(p[0])
	if !entry.IsTable(table) {
		return 0, r.fault(api.ErrKind)
	}
	return table, nil
}

// standsBehind tells whether a key stands behind the last of some entries.
func standsBehind(k api.Key, l entry.List) bool {
	return len(l) == 0 || entry.Compare(l[len(l)-1].Key, k) < 0
}
