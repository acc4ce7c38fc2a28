package entry

import (
	"math"
	"strings"
	"testing"

	"overlay/api"
)

var noTables = []int{-1, api.Tables, 256, math.MinInt, math.MaxInt}

func TestTables(t *testing.T) {
	keys, values := []int{6, 5, 2}, []int{4, 4, 2}
	for table := range 3 {
		if !IsTable(table) || KeyBytes(table) != keys[table] || ValueBytes(table) != values[table] {
			t.Errorf("table %d: %v, keys of %d bytes, values of %d", table, IsTable(table), KeyBytes(table), ValueBytes(table))
		}
	}
	for _, table := range noTables {
		if IsTable(table) || KeyBytes(table) != 0 || ValueBytes(table) != 0 {
			t.Errorf("%d is taken for a table", table)
		}
		if IsKey(api.Key{Table: table}) || IsKey(api.Key{Table: table, Bytes: "\x02abcde"}) || IsValue(table, "") || IsValue(table, "abcd") {
			t.Errorf("table %d, that is none, has keys or values", table)
		}
	}
}

func TestNumberOfBytes(t *testing.T) {
	for table := range api.Tables {
		for n := range 12 {
			key := api.Key{Table: table, Bytes: strings.Repeat("\x00", n)}
			if IsKey(key) != (n == KeyBytes(table)) {
				t.Errorf("table %d: a key of %d bytes: %v", table, n, IsKey(key))
			}
			value := ""
			if n > 0 {
				value = strings.Repeat("\x00", n-1) + "\x01"
			}
			if IsValue(table, value) != (n == ValueBytes(table)) {
				t.Errorf("table %d: a value of %d bytes: %v", table, n, IsValue(table, value))
			}
		}
	}
}

func TestMacKeys(t *testing.T) {
	for first := range 256 {
		for _, rest := range []string{"\x00\x00\x00\x00\x00", "\xff\xff\xff\xff\xff", "\x01\x01\x01\x01\x01"} {
			k := api.Key{Table: api.Mac, Bytes: string([]byte{byte(first)}) + rest}
			if IsKey(k) != (first%2 == 0) {
				t.Errorf("the address %x: %v", k.Bytes, IsKey(k))
			}
		}
	}
}

// route is the key of an address and a length.
func route(address uint32, length int) api.Key {
	b := []byte{byte(address >> 24), byte(address >> 16), byte(address >> 8), byte(address), byte(length)}
	return api.Key{Table: api.Route, Bytes: string(b)}
}

func TestRouteKeys(t *testing.T) {
	for length := range 256 {
		if IsKey(route(0, length)) != (length <= 32) {
			t.Errorf("0.0.0.0 of length %d: %v", length, IsKey(route(0, length)))
		}
		for place := range 32 { // of the one bit that is 1; 0: the highest
			k := route(1<<(31-place), length)
			if want := length <= 32 && place < length; IsKey(k) != want {
				t.Errorf("bit %d, length %d: %v", place, length, IsKey(k))
			}
		}
	}
	for length := range 33 {
		ones := uint32(math.MaxUint32 << (32 - length))
		if !IsKey(route(ones, length)) {
			t.Errorf("%d ones are no route of that length", length)
		}
		if length < 32 && IsKey(route(ones>>1|1<<31, length)) {
			t.Errorf("%d ones are a route of length %d", length+1, length)
		}
	}
}

func TestAclKeysAndValues(t *testing.T) {
	for high := range 256 {
		for low := range 256 {
			two := string([]byte{byte(high), byte(low)})
			if !IsKey(api.Key{Table: api.Acl, Bytes: two}) {
				t.Fatalf("%x is no priority", two)
			}
			want := (high == 0 || high == 6 || high == 17) && low < 2
			if IsValue(api.Acl, two) != want {
				t.Errorf("the value %x of a rule: %v", two, !want)
			}
		}
	}
}

func TestAddressValues(t *testing.T) {
	for _, table := range []int{api.Mac, api.Route} {
		if IsValue(table, "\x00\x00\x00\x00") {
			t.Errorf("table %d: noughts are a value", table)
		}
		for place := range 32 {
			b := make([]byte, 4)
			b[place/8] = 1 << (place % 8)
			if !IsValue(table, string(b)) {
				t.Errorf("table %d: %x is no value", table, b)
			}
		}
	}
}
