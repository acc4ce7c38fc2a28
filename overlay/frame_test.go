package overlay_test

import (
	"bytes"
	"encoding/binary"
	"hash/crc32"
	"testing"

	"overlay/api"
	"overlay/overlay"
)

// unsealed: does Unseal tell that error, and nothing else?
func unsealed(t *testing.T, what string, frame []byte, kind api.Errno, at int) {
	t.Helper()
	k, body, err := overlay.Unseal(frame)
	expect(t, what, err, kind, at)
	if k != 0 || body != nil {
		t.Errorf("%s: an error, and %d, %q", what, k, body)
	}
}

// librarySum is the sum as the library of Go has it, in four bytes.
func librarySum(b []byte) []byte {
	return binary.BigEndian.AppendUint32(nil, crc32.ChecksumIEEE(b))
}

// bodies: some of every length up to a bound.
func bodies() [][]byte {
	all := [][]byte{nil, {}, {0, 0, 0, 0}, {255, 255, 255, 255}, bytes.Repeat([]byte{7}, 5000)}
	var b []byte
	for i := range 90 {
		b = append(b, byte(i*37+i*i))
		all = append(all, bytes.Clone(b))
	}
	return all
}

func TestP5SealTellsAFrame(t *testing.T) {
	if f := overlay.Seal(2, nil); !bytes.Equal(f, []byte{2, 60, 12, 142, 161}) {
		t.Errorf("of kind 2, and nothing: %v", f)
	}
	for kind := range 256 {
		for _, body := range bodies() {
			head := append([]byte{byte(kind)}, body...)
			want := append(bytes.Clone(head), librarySum(head)...)
			if f := overlay.Seal(byte(kind), body); !bytes.Equal(f, want) {
				t.Errorf("of kind %d, and %v: %v, want %v", kind, body, f, want)
			}
		}
	}
}

func TestP5UnsealTellsKindAndBody(t *testing.T) {
	k, body, err := overlay.Unseal([]byte{2, 60, 12, 142, 161})
	if k != 2 || len(body) != 0 || err != nil {
		t.Errorf("the example: %d, %v, %v", k, body, err)
	}
	for kind := range 256 {
		for _, body := range bodies() {
			k, got, err := overlay.Unseal(overlay.Seal(byte(kind), body))
			if int(k) != kind || !bytes.Equal(got, body) || err != nil {
				t.Errorf("of kind %d, and %v: %d, %v, %v", kind, body, k, got, err)
			}
		}
	}
}

func TestP5UnsealOfFewBytes(t *testing.T) {
	unsealed(t, "nil", nil, api.ErrShort, 0)
	long := overlay.Seal(1, []byte("body"))
	for n := range 5 {
		unsealed(t, "few bytes", long[:n], api.ErrShort, n)
		unsealed(t, "few noughts", make([]byte, n), api.ErrShort, n)
	}
	unsealed(t, "five bytes", long[:5], api.ErrSum, 1)
	unsealed(t, "five noughts", make([]byte, 5), api.ErrSum, 1)
}

func TestP5UnsealOfAnotherSum(t *testing.T) {
	for _, body := range [][]byte{nil, {0}, []byte("123456789"), []byte(one)} {
		f := overlay.Seal(api.FrameDelta, body)
		for bit := range 8 * len(f) {
			f[bit/8] ^= 1 << (bit % 8)
			unsealed(t, "one bit is another", f, api.ErrSum, len(f)-4)
			f[bit/8] ^= 1 << (bit % 8)
		}
		unsealed(t, "a byte behind", append(bytes.Clone(f), 0), api.ErrSum, len(f)-3)
		if len(f) > 5 {
			unsealed(t, "less the last byte", f[:len(f)-1], api.ErrSum, len(f)-5)
			unsealed(t, "less the first byte", f[1:], api.ErrSum, len(f)-5)
		}
	}
}

func TestP2SealKeepsAndWritesNothing(t *testing.T) {
	long := []byte("body, and what stands behind it")
	was := string(long)
	f := overlay.Seal(9, long[:4])
	if string(long) != was {
		t.Errorf("the body was written into: %q", long)
	}
	told := string(f)
	again := overlay.Seal(9, long[:4])
	clear(long)
	clear(again[:cap(again)])
	if string(f) != told {
		t.Errorf("a frame that hangs on its body, or on another frame: %q", f)
	}
}

func TestP2UnsealKeepsAndWritesNothing(t *testing.T) {
	long := append(overlay.Seal(9, []byte("body")), "behind"...)
	was := string(long)
	frame := long[:9]
	_, body, err := overlay.Unseal(frame)
	if err != nil || string(long) != was {
		t.Fatalf("the frame was written into: %q, %v", long, err)
	}
	_, again, err := overlay.Unseal(frame)
	if err != nil {
		t.Fatal(err)
	}
	clear(again[:cap(again)])
	if string(long) != was {
		t.Errorf("a body is the frame's memory: %q", long)
	}
	clear(long)
	if string(body) != "body" {
		t.Errorf("a body that hangs on its frame, or on another body: %q", body)
	}
}
