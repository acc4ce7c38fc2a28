package wire

import (
	"overlay/api"
	"overlay/sum"
)

const sumBytes = 4

// Seal makes a frame of a kind and a body.
func Seal(kind byte, body []byte) []byte {
	f := append([]byte{kind}, body...)
	return AppendNumber(f, uint64(sum.Of(f)), sumBytes)
}

// Unseal tells the kind and the body of a frame.
func Unseal(frame []byte) (byte, []byte, error) {
	if len(frame) < 1+sumBytes {
		return 0, nil, fault(api.ErrShort, len(frame))
	}
	end := len(frame) - sumBytes
	if Number(frame[end:]) != uint64(sum.Of(frame[:end])) {
		return 0, nil, fault(api.ErrSum, end)
	}
	return frame[0], append([]byte{}, frame[1:end]...), nil
}
