// Package seq has numbers that go around at 2 to the power of 32.
package seq

// around is how many numbers of 32 bits there are.
const around = 1 << 32

// number is an unsigned number of any size: it goes around where its bits end.
type number interface {
	~uint8 | ~uint16 | ~uint32 | ~uint64
}

// way is how much is to be added to a to come to b.
func way[N number](a, b N) N {
	return b - a
}

// less tells whether b is ahead of a by less than half the way around.
func less[N number](a, b N) bool {
	w := way(a, b)
	return w > 0 && w <= ^N(0)/2
}

// nearer is that one of below and above that x has less way to: above, if both are as near.
func nearer[N number](x, below, above N) N {
	if way(below, x) < way(x, above) {
		return below
	}
	return above
}

// Less tells whether a is less than b: the way from a to b is from 1 to 2^31 - 1.
func Less(a, b uint32) bool {
	return less(a, b)
}

// Sub is the way from b to a, told as a step back where that is at least 2^31.
func Sub(a, b uint32) int64 {
	w := int64(way(b, a))
	if w < around/2 {
		return w
	}
	return w - around
}

// In tells whether x is one of the n numbers from from on.
func In(x, from, n uint32) bool {
	return way(from, x) < n
}

// Max is b, if a is less than b; else a.
func Max(a, b uint32) uint32 {
	if less(a, b) {
		return b
	}
	return a
}

// Lift is the place nearest to near whose last 32 bits are s: the greater one, if two are as near.
func Lift(near uint64, s uint32) uint64 {
	above := near + uint64(way(uint32(near), s))
	below := above - around
	switch {
	case above < near: // it went around: there is no such place up to 2^64 - 1
		return below
	case above < around: // there is no such place from 0 on that is below it
		return above
	}
	return nearer(near, below, above)
}
