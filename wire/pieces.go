package wire

import "overlay/api"

const (
	pieceNumberBytes = 1
	beginBytes       = versionBytes + pieceNumberBytes
)

// sized is the fault of bytes that are fewer than least, or more than most; nil, if they are neither.
func sized(b []byte, least, most int) error {
	switch {
	case len(b) < least:
		return fault(api.ErrShort, len(b))
	case len(b) > most:
		return fault(api.ErrMore, most)
	}
	return nil
}

// isPieces tells whether a state may come in so many pieces.
func isPieces(n int) bool { return n >= 1 && n <= api.MaxPieces }

// DecodeBegin tells the version of a state that is to come, and in how many pieces. Bytes that are too many are told ahead of what they say.
func DecodeBegin(b []byte) (uint64, int, error) {
	if err := sized(b, beginBytes, beginBytes); err != nil {
		return 0, 0, err
	}
	v, pieces := Number(b[:versionBytes]), int(b[versionBytes])
	switch {
	case !isVersion(v):
		return 0, 0, fault(api.ErrVersion, 0)
	case !isPieces(pieces):
		return 0, 0, fault(api.ErrCount, versionBytes)
	}
	return v, pieces, nil
}

// DecodePiece tells a piece's number, and its bytes (a part of b).
func DecodePiece(b []byte) (int, []byte, error) {
	if err := sized(b, pieceNumberBytes+1, pieceNumberBytes+api.MaxPiece); err != nil {
		return 0, nil, err
	}
	return int(b[0]), b[pieceNumberBytes:], nil
}
