package wire

import (
	"math"
	"testing"
)

// own is a type of a size that another one has too.
type own uint16

// TestSize: of each type.
func TestSize(t *testing.T) {
	if a, b, c, d := Size[uint8](), Size[uint16](), Size[uint32](), Size[own](); a != 1 || b != 2 || c != 4 || d != 2 {
		t.Errorf("sizes are %d, %d, %d, %d", a, b, c, d)
	}
}

// TestLay: numbers of each size are laid behind what is there.
func TestLay(t *testing.T) {
	b := Lay(Lay([]byte("a"), uint8(1)), uint16(0x0203))
	b = Lay(Lay(b, uint32(0x04050607)), own(0x0809))
	if string(b) != "a\x01\x02\x03\x04\x05\x06\x07\x08\x09" {
		t.Errorf("laid are %x", b)
	}
	if b := Lay(nil, uint32(math.MaxUint32)); string(b) != "\xff\xff\xff\xff" {
		t.Errorf("laid are %x", b)
	}
}

// put is b with n's bytes, told apart here, laid over those from that place on where all of them are.
func put(b string, place int, n ...byte) string {
	if place < 0 || place+len(n) > len(b) {
		return b
	}
	return b[:place] + string(n) + b[place+len(n):]
}

// TestPut: a number is laid where there is room for all its bytes; elsewhere nothing is.
func TestPut(t *testing.T) {
	const s = "abcdefg"
	for n := range len(s) + 1 {
		for place := -6; place < n+6; place++ {
			a, b, c, d := []byte(s[:n]), []byte(s[:n]), []byte(s[:n]), []byte(s[:n])
			Put(a, place, uint8(0x81))
			Put(b, place, uint16(0x8203))
			Put(c, place, uint32(0x84050607))
			Put(d, place, own(0x8809))
			if string(a) != put(s[:n], place, 0x81) || string(b) != put(s[:n], place, 0x82, 3) || string(c) != put(s[:n], place, 0x84, 5, 6, 7) || string(d) != put(s[:n], place, 0x88, 9) {
				t.Errorf("put at %d of %q: %x, %x, %x, %x", place, s[:n], a, b, c, d)
			}
		}
	}
	for _, place := range []int{math.MinInt, math.MinInt + 4, math.MaxInt - 4, math.MaxInt} {
		b := []byte(s)
		Put(b, place, uint8(1))
		Put(b, place, uint16(1))
		Put(b, place, uint32(1))
		if string(b) != s {
			t.Errorf("put at %d: %x", place, b)
		}
	}
}

// TestPutKeepsBehind: what is behind the end of the slice stays, though there is room.
func TestPutKeepsBehind(t *testing.T) {
	b := []byte("abcdefg")
	Put(b[:4], 1, uint32(0x01020304))
	Put(b[:4], 4, uint8(1))
	if string(b) != "abcdefg" {
		t.Errorf("put is %x", b)
	}
	Put(b[:4], 2, uint16(0x0102))
	if string(b) != "abefg" {
		t.Errorf("put is %x", b)
	}
}

// whole is the number of size bytes at that place of s, told byte by byte; 0, if one is wanting.
func whole(s string, place, size int) uint64 {
	var n uint64
	for i := range size {
		if place < 0 || place+i >= len(s) {
			return 0
		}
		n = n*256 + uint64(s[place+i])
	}
	return n
}

// TestAt: a number stands where all its bytes are; elsewhere none does.
func TestAt(t *testing.T) {
	const s = "\x80\x01\x02\x03\x04\x05\xff"
	for n := range len(s) + 1 {
		for place := -6; place < n+6; place++ {
			a, b, c, d := At[uint8](s[:n], place), At[uint16](s[:n], place), At[uint32](s[:n], place), At[own](s[:n], place)
			if uint64(a) != whole(s[:n], place, 1) || uint64(b) != whole(s[:n], place, 2) || uint64(c) != whole(s[:n], place, 4) || uint64(d) != whole(s[:n], place, 2) {
				t.Errorf("at %d of %x: %x, %x, %x, %x", place, s[:n], a, b, c, d)
			}
		}
	}
	for _, place := range []int{math.MinInt, math.MinInt + 4, math.MaxInt - 4, math.MaxInt} {
		if a, b, c := At[uint8](s, place), At[uint16](s, place), At[uint32](s, place); a != 0 || b != 0 || c != 0 {
			t.Errorf("at %d: %x, %x, %x", place, a, b, c)
		}
	}
}

// TestLaidIsRead: what was laid stands there, each bit of it.
func TestLaidIsRead(t *testing.T) {
	for bit := range 32 {
		n := uint32(1)<<bit ^ 0x55aa0ff0
		s := string(Lay(Lay(Lay([]byte("ab"), n), uint16(n>>8)), uint8(n)))
		if At[uint32](s, 2) != n || At[uint16](s, 6) != uint16(n>>8) || At[uint8](s, 8) != uint8(n) || len(s) != 9 {
			t.Errorf("%x is laid as %x", n, s)
		}
	}
}
