// Package sum: the sum of bytes, by which a frame that was changed on its way is told.
package sum

const polynomial = 0xEDB88320

// added is, by the four lowest bits of a sum, what is added to it while it is halved four times. (Four and not eight: a package's table stays short.)
var added [16]uint32

func init() {
	for low := range len(added) {
		added[low] = halved(uint32(low))
	}
}

// halved is a number halved four times, with the polynomial added for each 1 that fell out.
func halved(n uint32) uint32 {
	for range 4 {
		fell := n & 1
		n >>= 1
		if fell == 1 {
			n ^= polynomial
		}
	}
	return n
}

// Of is the sum of some bytes.
func Of(b []byte) uint32 {
	s := ^uint32(0)
	for _, x := range b {
		s ^= uint32(x)
		s = s>>4 ^ added[s&15]
		s = s>>4 ^ added[s&15]
	}
	return ^s
}
