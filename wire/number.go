// Package wire: deltas, states and frames as bytes.
package wire

// AppendNumber lays a number's lowest bytes behind b, as many as size says, the highest first.
func AppendNumber(b []byte, n uint64, size int) []byte {
	for i := size - 1; i >= 0; i-- {
		b = append(b, byte(n>>(8*i)))
	}
	return b
}

// Number is the number that bytes are, the highest first.
func Number(b []byte) uint64 {
	var n uint64
	for _, x := range b {
		n = n<<8 | uint64(x)
	}
	return n
}
