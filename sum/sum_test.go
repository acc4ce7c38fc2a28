package sum

import "testing"

// slow is the sum as the document tells it, bit by bit.
func slow(b []byte) uint32 {
	s := uint32(0xFFFFFFFF)
	for _, x := range b {
		s ^= uint32(x)
		for range 8 {
			out := s % 2
			s /= 2
			if out == 1 {
				s ^= 0xEDB88320
			}
		}
	}
	return s ^ 0xFFFFFFFF
}

func TestKnownSums(t *testing.T) {
	for _, c := range []struct {
		text string
		want uint32
	}{
		{"", 0},
		{"\x02", 0x3c0c8ea1},
		{"a", 0xe8b7be43},
		{"123456789", 0xcbf43926},
		{"\x00\x00\x00\x00", 0x2144df1c},
		{"\xff\xff\xff\xff", 0xffffffff},
	} {
		if got := Of([]byte(c.text)); got != c.want {
			t.Errorf("the sum of %q: %08x, want %08x", c.text, got, c.want)
		}
	}
	if got := Of(nil); got != 0 {
		t.Errorf("the sum of nothing: %08x", got)
	}
}

func TestSumIsTheDocumentsOne(t *testing.T) {
	for x := range 256 {
		b := []byte{byte(x)}
		if Of(b) != slow(b) {
			t.Errorf("the sum of the byte %d: %08x, want %08x", x, Of(b), slow(b))
		}
	}
	var b []byte
	for i := range 600 {
		if Of(b) != slow(b) {
			t.Fatalf("the sum of %d bytes: %08x, want %08x", i, Of(b), slow(b))
		}
		b = append(b, byte(i*i+7*i>>3))
	}
}
