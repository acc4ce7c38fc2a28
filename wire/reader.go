package wire

import (
	"overlay/api"
	"overlay/entry"
)

// reader takes bytes apart, piece by piece. A fault is told at the begin of the piece that was read last, so it must be told ahead of the next one.
type reader struct {
	bytes      []byte
	begin, end int // of the piece that was read last
}

// fault is an error of a kind, at the piece that was read last.
func (r *reader) fault(kind api.Errno) error { return fault(kind, r.begin) }

// fault is an error of a kind, at a place.
func fault(kind api.Errno, at int) error { return &api.Fault{Kind: kind, At: at} }

// piece is the next one, of that many bytes.
func (r *reader) piece(size int) ([]byte, error) {
	r.begin = r.end
	if len(r.bytes)-r.begin < size {
		return nil, r.fault(api.ErrShort)
	}
	r.end = r.begin + size
	return r.bytes[r.begin:r.end], nil
}

// version is the next piece, a delta's version.
func (r *reader) version() (uint64, error) {
	p, err := r.piece(versionBytes)
	if err != nil {
		return 0, err
	}
	v := Number(p)
	if !isVersion(v) {
		return 0, r.fault(api.ErrVersion)
	}
	return v, nil
}

// key is the next piece, a key of a table.
func (r *reader) key(table int) (api.Key, error) {
	p, err := r.piece(entry.KeyBytes(table))
	if err != nil {
		return api.Key{}, err
	}
	k := api.Key{Table: table, Bytes: string(p)}
	if !entry.IsKey(k) {
		return api.Key{}, r.fault(api.ErrKey)
	}
	return k, nil
}

// value is the next piece, a value of a table.
func (r *reader) value(table int) (string, error) {
	p, err := r.piece(entry.ValueBytes(table))
	if err != nil {
		return "", err
	}
	v := string(p)
	if !entry.IsValue(table, v) {
		return "", r.fault(api.ErrValue)
	}
	return v, nil
}

// done is the error of bytes behind the last piece, if there are any.
func (r *reader) done() error {
	if r.end < len(r.bytes) {
		return fault(api.ErrMore, r.end)
	}
	return nil
}
