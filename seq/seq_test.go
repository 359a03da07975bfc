package seq

import (
	"math/big"
	"testing"
)

const (
	half  = 1 << 31
	last  = 1<<32 - 1
	final = 1<<64 - 1
)

// ways are those at which an answer may turn, and some between.
var ways = []uint32{0, 1, 2, 1000, half - 2, half - 1, half, half + 1, last - 1, last}

// starts are numbers to go from: in the middle, and where they go around.
var starts = []uint32{0, 1, 2, 12345, half - 1, half, half + 1, 0xdeadbeef, last - 1, last}

// TestExamples: those of the chapter.
func TestExamples(t *testing.T) {
	if !Less(4294967295, 0) || Less(0, 2147483648) || Less(2147483648, 0) {
		t.Error("Less")
	}
	if Sub(1, 3) != -2 || Sub(2147483648, 0) != -2147483648 {
		t.Error("Sub")
	}
	if Lift(4294967290, 5) != 4294967301 || Lift(3, 4294967295) != 4294967295 {
		t.Error("Lift")
	}
}

// TestLess (P1.1): just the ways from 1 to 2^31 - 1 make a number less.
func TestLess(t *testing.T) {
	for _, a := range starts {
		for _, w := range ways {
			want := w >= 1 && w <= half-1
			if got := Less(a, a+w); got != want {
				t.Errorf("Less(%d, %d) is %t", a, a+w, got)
			}
		}
	}
}

// TestSub (P1.1): a way below 2^31 is told as it is, one from there on as a step back.
func TestSub(t *testing.T) {
	for _, x := range []struct {
		way  uint32
		want int64
	}{{0, 0}, {1, 1}, {70000, 70000}, {half - 1, half - 1}, {half, -half}, {half + 1, -half + 1}, {last - 1, -2}, {last, -1}} {
		for _, b := range starts {
			if got := Sub(b+x.way, b); got != x.want {
				t.Errorf("Sub(%d, %d) is %d, not %d", b+x.way, b, got, x.want)
			}
		}
	}
}

// TestIn (P1.1): the n numbers from from on are in, the one behind them and the one ahead are not.
func TestIn(t *testing.T) {
	for _, from := range starts {
		for _, n := range ways {
			for _, w := range ways {
				want := uint64(w) < uint64(n)
				if got := In(from+w, from, n); got != want {
					t.Errorf("In(%d, %d, %d) is %t", from+w, from, n, got)
				}
			}
			if n > 0 && !In(from+n-1, from, n) {
				t.Errorf("the last one of %d numbers from %d on is not in", n, from)
			}
			if In(from+n, from, n) || In(from-1, from, n) {
				t.Errorf("a number beside the %d numbers from %d on is in", n, from)
			}
		}
	}
}

// TestMax (P1.1): b only if a is less than b, a also where neither is less (the way 2^31).
func TestMax(t *testing.T) {
	for _, a := range starts {
		for _, w := range ways {
			b := a + w
			want := a
			if w >= 1 && w <= half-1 {
				want = b
			}
			if got := Max(a, b); got != want {
				t.Errorf("Max(%d, %d) is %d, not %d", a, b, got, want)
			}
		}
	}
}

// TestLessOfAnySize: the comparison that Less stands on goes around at each size; at 8 bits all pairs are gone through.
func TestLessOfAnySize(t *testing.T) {
	for a := range 256 {
		for b := range 256 {
			w := (b - a + 256) % 256
			if got := less(uint8(a), uint8(b)); got != (w >= 1 && w <= 127) {
				t.Errorf("less(%d, %d) of 8 bits is %t", a, b, got)
			}
		}
	}
	if !less[uint16](1<<16-1, 0) || !less[uint16](0, 1<<15-1) || less[uint16](0, 1<<15) || less[uint16](1<<15, 0) {
		t.Error("less of 16 bits")
	}
	if !less[uint64](final, 0) || !less[uint64](0, 1<<63-1) || less[uint64](0, 1<<63) || less[uint64](1<<63, 0) {
		t.Error("less of 64 bits")
	}
}

// TestLift (P1.2): both directions, both ends of what 64 bits hold, and two places that are as near.
func TestLift(t *testing.T) {
	for _, x := range []struct {
		near uint64
		s    uint32
		want uint64
	}{
		{5, 5, 5},
		{1<<40 + 7, 7, 1<<40 + 7},
		{1<<40 + 7, 9, 1<<40 + 9},
		{1<<40 + 7, 6, 1<<40 + 6},
		{1 << 40, last, 1<<40 - 1},
		{1<<40 - 1, 0, 1 << 40},
		{1 << 40, half - 1, 1<<40 + half - 1},
		{1 << 40, half + 1, 1<<40 - half + 1},
		// two that are as near: the greater one
		{1 << 40, half, 1<<40 + half},
		{1<<40 + half, 0, 1<<40 + 1<<32},
		{1<<40 + 5, half + 5, 1<<40 + half + 5},
		// near 0: none is below 0, however far the other one is
		{0, 0, 0},
		{0, 1, 1},
		{0, half, half},
		{0, half + 1, half + 1},
		{0, last, last},
		{half - 1, last, last},
		{half, last, last},
		{half, 0, 1 << 32},
		{half - 1, 0, 0},
		{last, 0, 1 << 32},
		{1 << 32, last, last},
		// the first places that have one below them
		{1<<32 - 1, half, half},
		{1 << 32, half, 1<<32 + half},
		{1 << 32, half + 1, half + 1},
		// near 2^64 - 1: none is above it
		{final, last, final},
		{final, last - 1, final - 1},
		{final, 0, final - last},
		{final, half, final - last + half},
		{final, half - 1, final - last + half - 1},
		{final - half, last, final},
		{final - half, half - 1, final - half},
		{final - last, last, final - last - 1},
		{final - last, half, final - last + half},
		{final - 5, 2, final - last + 2},
	} {
		if got := Lift(x.near, x.s); got != x.want {
			t.Errorf("Lift(%d, %d) is %d, not %d", x.near, x.s, got, x.want)
		}
	}
}

// nearest goes through the places that are s modulo 2^32, in numbers without an end.
func nearest(near uint64, s uint32) *big.Int {
	n := new(big.Int).SetUint64(near)
	var best, least *big.Int
	for k := int64(near>>32) - 2; k <= int64(near>>32)+2; k++ {
		p := new(big.Int).Lsh(big.NewInt(k), 32)
		p.Add(p, big.NewInt(int64(s)))
		if p.Sign() < 0 || p.BitLen() > 64 {
			continue
		}
		d := new(big.Int).Sub(p, n)
		d.Abs(d)
		if best == nil || d.Cmp(least) <= 0 { // places rise: of two that are as near the later one is greater
			best, least = p, d
		}
	}
	return best
}

// TestLiftIsNearest (P1.2): held against a search through all places about, at the edges of either argument.
func TestLiftIsNearest(t *testing.T) {
	for _, high := range []uint64{0, 1, 2, 77, 1<<31 - 1, 1 << 31, last - 1, last} {
		for _, low := range starts {
			near := high<<32 | uint64(low)
			for _, w := range ways {
				s := low + w
				if got, want := Lift(near, s), nearest(near, s); new(big.Int).SetUint64(got).Cmp(want) != 0 {
					t.Errorf("Lift(%d, %d) is %d, not %d", near, s, got, want)
				}
			}
		}
	}
}

// TestOrderIsKept (P1.3): places less than 2^31 apart keep their order and their way, wherever they are moved together.
func TestOrderIsKept(t *testing.T) {
	for _, w := range []uint32{1, 2, 1000, half - 1} {
		for _, by := range starts {
			a, b := by, by+w
			if !Less(a, b) || Less(b, a) {
				t.Errorf("%d and %d: out of order", a, b)
			}
			if Sub(b, a) != int64(w) || Sub(a, b) != -int64(w) {
				t.Errorf("%d and %d: Sub is %d and %d", a, b, Sub(b, a), Sub(a, b))
			}
			if Max(a, b) != b || Max(b, a) != b {
				t.Errorf("%d and %d: Max is %d and %d", a, b, Max(a, b), Max(b, a))
			}
		}
	}
}

// TestPlaceIsFoundAgain (P1.3): from its 32 bits and any place less than 2^31 away.
func TestPlaceIsFoundAgain(t *testing.T) {
	offs := []uint64{0, 1, 2, 1000, half - 2, half - 1}
	for _, p := range []uint64{0, 1, 1000, half - 1, half, half + 1, last, 1 << 32, 1<<32 + 1, 1<<40 + 12345, 1 << 63, final - last, final - half, final - 1, final} {
		for _, off := range offs {
			if off <= p && Lift(p-off, uint32(p)) != p {
				t.Errorf("%d is not found from %d ahead of it", p, off)
			}
			if off <= final-p && Lift(p+off, uint32(p)) != p {
				t.Errorf("%d is not found from %d behind it", p, off)
			}
		}
	}
}
