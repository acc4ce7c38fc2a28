// Package entry: what may be a key, and a value, of each table; entries in their order, and what can be asked of them.
package entry

import "overlay/api"

// How many bytes a key and a value have, by table.
var (
	keyBytes   = [api.Tables]int{6, 5, 2}
	valueBytes = [api.Tables]int{4, 4, 2}
)

// IsTable tells whether there is such a table.
func IsTable(table int) bool { return table >= 0 && table < api.Tables }

// KeyBytes is how many bytes a key of a table has; 0, if there is no such table.
func KeyBytes(table int) int {
	if !IsTable(table) {
		return 0
	}
	return keyBytes[table]
}

// ValueBytes is how many bytes a value of a table has; 0, if there is no such table.
func ValueBytes(table int) int {
	if !IsTable(table) {
		return 0
	}
	return valueBytes[table]
}

// IsKey tells whether a key is one of its table.
func IsKey(k api.Key) bool {
	if !IsTable(k.Table) || len(k.Bytes) != keyBytes[k.Table] {
		return false
	}
	switch k.Table {
	case api.Mac:
		return k.Bytes[0]&1 == 0
	case api.Route:
		return isPrefix(k.Bytes[:addressBytes], k.Bytes[addressBytes])
	}
	return true
}

// isPrefix tells whether an address of four bytes has noughts alone behind its first bits, as many as length says.
func isPrefix(address string, length byte) bool {
	return length <= addressBits && bitsOf(address)<<length == 0
}

// IsValue tells whether a value is one of a table.
func IsValue(table int, value string) bool {
	if !IsTable(table) || len(value) != valueBytes[table] {
		return false
	}
	if table == api.Acl {
		return isProtocol(value[0]) && value[1] <= 1
	}
	return value != "\x00\x00\x00\x00"
}

// isProtocol tells whether a rule may name a protocol; 0 is every one.
func isProtocol(p byte) bool { return p == 0 || p == 6 || p == 17 }
