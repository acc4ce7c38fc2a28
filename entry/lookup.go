package entry

import "overlay/api"

const (
	addressBytes = 4
	addressBits  = 8 * addressBytes
)

// bitsOf is an address of four bytes as a number.
func bitsOf(address string) uint32 {
	var bits uint32
	for i := range len(address) {
		bits = bits<<8 | uint32(address[i])
	}
	return bits
}

// routeOf is the key of the route, of a length, that an address of four bytes lies in.
func routeOf(address string, length int) api.Key {
	behind := addressBits - length
	bits := bitsOf(address) >> behind << behind
	b := []byte{byte(bits >> 24), byte(bits >> 16), byte(bits >> 8), byte(bits), byte(length)}
	return api.Key{Table: api.Route, Bytes: string(b)}
}

// Mac is the value of an address, if there is one.
func (l List) Mac(address string) (string, bool) {
	return l.Value(api.Key{Table: api.Mac, Bytes: address})
}

// Route is the value of the longest route that an address lies in, if there is one.
func (l List) Route(address string) (string, bool) {
	if len(address) != addressBytes {
		return "", false
	}
	for length := addressBits; length >= 0; length-- {
		if v, found := l.Value(routeOf(address, length)); found {
			return v, true
		}
	}
	return "", false
}

// Acl is what the first rule for a protocol says, if there is one. (Keys are ordered by their bytes: the least priority stands first.)
func (l List) Acl(protocol int) (int, bool) {
	for k, v := range l.All() {
		if k.Table == api.Acl && (v[0] == 0 || int(v[0]) == protocol) {
			return int(v[1]), true
		}
	}
	return 0, false
}
