// Package wire has numbers as they stand in packets: their bytes, the highest first.
package wire

import "math/bits"

// Number is a number that is laid into bytes.
type Number interface {
	~uint8 | ~uint16 | ~uint32
}

// Size is how many bytes a number of that type has.
func Size[N Number]() int {
	return bits.Len64(uint64(^N(0))) / 8
}

// Lay appends the bytes of n to b.
func Lay[N Number](b []byte, n N) []byte {
	for left := Size[N]() - 1; left >= 0; left-- {
		b = append(b, byte(n>>(8*left)))
	}
	return b
}

// Put lays the bytes of n over those that stand in b from that place on; over none, if b has not as many there.
func Put[N Number](b []byte, place int, n N) {
	if place < 0 || place > len(b)-Size[N]() {
		return
	}
	copy(b[place:], Lay(nil, n))
}

// At is the number whose first byte is the one of s at that place: 0, if s has not all its bytes there.
func At[N Number](s string, place int) N {
	size := Size[N]()
	if place < 0 || place > len(s)-size {
		return 0
	}
	var n N
	for i := range size {
		n |= N(s[place+i]) << (8 * (size - 1 - i))
	}
	return n
}
