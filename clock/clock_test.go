package clock

import (
	"math"
	"math/big"
	"slices"
	"testing"

	"transom/api"
)

const top = api.MaxTick

// times are some, with the first ones and the last ones.
var times = []int64{0, 1, 2, 5, 1 << 31, 1<<32 + 7, top / 2, top/2 + 1, top - 2, top - 1, top}

// below are numbers below all times.
var below = []int64{math.MinInt64, math.MinInt64 + 1, math.MinInt64 + top, -1 << 45, -top - 1, -top, -top + 1, -2, -1}

// above are numbers above all times.
var above = []int64{top + 1, top + 2, 2 * top, 2*top + 1, 1<<62 + 5, math.MaxInt64 - top - 1, math.MaxInt64 - top, math.MaxInt64 - top + 1, math.MaxInt64 - 1, math.MaxInt64}

// numbers are all of these, rising.
func numbers() []int64 {
	return slices.Concat(below, times, above)
}

// at is a clock that tells now.
func at(t *testing.T, now int64) *Clock {
	t.Helper()
	c, e := New(now)
	if e != api.OK || c == nil || c.Now() != now {
		t.Fatalf("New(%d) is %v, %v", now, c, e)
	}
	return c
}

// tells fails, unless c tells now.
func tells(t *testing.T, c *Clock, now int64, what string, n int64) {
	t.Helper()
	if got := c.Now(); got != now {
		t.Errorf("behind %s(%d) it is %d, not %d", what, n, got, now)
	}
}

// sum is what Add is to answer, worked out in numbers without an end.
func sum(t, by int64) (int64, api.Errno) {
	if !slices.Contains(times, t) || slices.Contains(below, by) {
		return 0, api.ErrArg
	}
	s := new(big.Int).Add(big.NewInt(t), big.NewInt(by))
	if s.Cmp(big.NewInt(top)) > 0 {
		return 0, api.ErrOver
	}
	return s.Int64(), api.OK
}

// jumping tells numbers below n that hop about: the same ones for the same seed.
func jumping(seed uint64) func(n int) int {
	return func(n int) int {
		seed = seed*6364136223846793005 + 1442695040888963407
		return int(seed>>33) % n
	}
}

// orders hands over l in each order.
func orders(l []int64, do func([]int64)) {
	var walk func(ahead, rest []int64)
	walk = func(ahead, rest []int64) {
		if len(rest) == 0 {
			do(ahead)
		}
		for i, n := range rest {
			walk(append(slices.Clone(ahead), n), slices.Delete(slices.Clone(rest), i, i+1))
		}
	}
	walk(nil, l)
}

// TestExamples: those of the chapter.
func TestExamples(t *testing.T) {
	c := at(t, 5)
	if e := c.Go(3); e != api.OK || c.Now() != 8 {
		t.Errorf("Go(3) is %v, the time %d", e, c.Now())
	}
	if got := c.Left(10); got != 2 {
		t.Errorf("Left(10) is %d", got)
	}
	if e := c.Go(-1); e != api.ErrArg || c.Now() != 8 {
		t.Errorf("Go(-1) is %v, the time %d", e, c.Now())
	}
}

// TestMay (P9.1): just the numbers from 0 to MaxTick are times.
func TestMay(t *testing.T) {
	for _, x := range []struct {
		n    int64
		want bool
	}{{0, true}, {1, true}, {top - 1, true}, {top, true}, {-1, false}, {top + 1, false}, {-top, false}, {1 << 45, false}, {math.MinInt64, false}, {math.MaxInt64, false}} {
		if got := May(x.n); got != x.want {
			t.Errorf("May(%d) is %t", x.n, got)
		}
	}
	for _, n := range numbers() {
		if got, want := May(n), slices.Contains(times, n); got != want {
			t.Errorf("May(%d) is %t", n, got)
		}
	}
	for i := range 63 { // a bit by itself, and what is beside it
		n := int64(1) << i
		if May(n) != (i <= 44) || May(n-1) != (i <= 44) || May(n+1) != (i < 44) || May(-n) {
			t.Errorf("May about 2^%d", i)
		}
	}
}

// TestAdd (P9.1): sums up to MaxTick, and not beyond; a fault of an argument is told ahead of a sum that is too great.
func TestAdd(t *testing.T) {
	for _, x := range []struct {
		t, by, want int64
		e           api.Errno
	}{
		{0, 0, 0, api.OK},
		{5, 3, 8, api.OK},
		{5, 0, 5, api.OK},
		{0, 5, 5, api.OK},
		// exactly MaxTick, and one above it
		{0, top, top, api.OK},
		{top, 0, top, api.OK},
		{1, top - 1, top, api.OK},
		{top - 1, 1, top, api.OK},
		{top / 2, top / 2, top, api.OK},
		{0, top + 1, 0, api.ErrOver},
		{top, 1, 0, api.ErrOver},
		{1, top, 0, api.ErrOver},
		{top - 1, 2, 0, api.ErrOver},
		{top / 2, top/2 + 1, 0, api.ErrOver},
		{top, top, 0, api.ErrOver},
		// numbers with which the sum would go around
		{0, math.MaxInt64, 0, api.ErrOver},
		{1, math.MaxInt64, 0, api.ErrOver},
		{top, math.MaxInt64, 0, api.ErrOver},
		{top, math.MaxInt64 - top, 0, api.ErrOver},
		{top, math.MaxInt64 - top + 1, 0, api.ErrOver},
		// negative numbers, though the sum would be a time
		{5, -1, 0, api.ErrArg},
		{5, -5, 0, api.ErrArg},
		{top, -top, 0, api.ErrArg},
		{0, -1, 0, api.ErrArg},
		{0, math.MinInt64, 0, api.ErrArg},
		{top, math.MinInt64, 0, api.ErrArg},
		// what is no time, though the sum would be one
		{-1, 0, 0, api.ErrArg},
		{-1, 1, 0, api.ErrArg},
		{-1, 5, 0, api.ErrArg},
		{-top, top, 0, api.ErrArg},
		{math.MinInt64, math.MaxInt64, 0, api.ErrArg},
		{math.MinInt64, 0, 0, api.ErrArg},
		// both faults: the first one
		{top + 1, 0, 0, api.ErrArg},
		{top + 1, 1, 0, api.ErrArg},
		{top + 1, -1, 0, api.ErrArg},
		{top + 1, math.MaxInt64, 0, api.ErrArg},
		{-1, -1, 0, api.ErrArg},
		{-1, top + 2, 0, api.ErrArg},
		{-1, math.MaxInt64, 0, api.ErrArg},
		{math.MaxInt64, 0, 0, api.ErrArg},
		{math.MaxInt64, 1, 0, api.ErrArg},
		{math.MaxInt64, math.MaxInt64, 0, api.ErrArg},
		{math.MaxInt64, math.MinInt64, 0, api.ErrArg},
		{math.MinInt64, math.MinInt64, 0, api.ErrArg},
	} {
		if got, e := Add(x.t, x.by); got != x.want || e != x.e {
			t.Errorf("Add(%d, %d) is %d, %v; not %d, %v", x.t, x.by, got, e, x.want, x.e)
		}
	}
}

// TestAddOfEach (P9.1): each two of the numbers, against sums of numbers without an end.
func TestAddOfEach(t *testing.T) {
	for _, n := range numbers() {
		for _, by := range numbers() {
			want, wantErr := sum(n, by)
			if got, e := Add(n, by); got != want || e != wantErr {
				t.Errorf("Add(%d, %d) is %d, %v; not %d, %v", n, by, got, e, want, wantErr)
			}
		}
	}
}

// TestLeast (P9.1): in each order, with others that are no times left out.
func TestLeast(t *testing.T) {
	for _, x := range []struct {
		want int64
		l    []int64
	}{
		// none
		{top, nil},
		{top, []int64{}},
		// one
		{0, []int64{0}},
		{7, []int64{7}},
		{top - 1, []int64{top - 1}},
		{top, []int64{top}},
		// no times alone
		{top, []int64{-1}},
		{top, []int64{top + 1}},
		{top, []int64{math.MinInt64}},
		{top, []int64{math.MaxInt64}},
		{top, []int64{-1, -2, top + 1, math.MinInt64, math.MaxInt64}},
		// times alone
		{0, []int64{0, 1, 2, top}},
		{3, []int64{3, 4}},
		{5, []int64{9, 5, top - 1, 7}},
		// both
		{7, []int64{-5, 9, 7}},
		{0, []int64{-1, 0}},
		{0, []int64{math.MinInt64, 0, top, top + 1, -1}},
		{top, []int64{-1, top, top + 1}},
		{top - 1, []int64{-top, top - 1, math.MaxInt64, top}},
		{8, []int64{math.MaxInt64, -8, 8, 1 << 40, -1}},
		// the same one twice
		{4, []int64{4, 4}},
		{4, []int64{4, 4, 6, 6}},
		{6, []int64{6, -1, 6, -1}},
		{top, []int64{top, top}},
		{0, []int64{0, 0, 1}},
	} {
		orders(x.l, func(l []int64) {
			was := slices.Clone(l)
			if got := Least(l...); got != x.want {
				t.Errorf("Least(%v) is %d, not %d", was, got, x.want)
			}
			if !slices.Equal(l, was) {
				t.Errorf("Least has made %v of %v", l, was)
			}
		})
	}
	if got := Least(); got != top {
		t.Errorf("Least() is %d", got)
	}
}

// TestLeastOfMany (P9.1): long lists, against the sorted ones; what lies behind a list in its memory stays too.
func TestLeastOfMany(t *testing.T) {
	all := numbers()
	next := jumping(9)
	for range 3000 {
		room := make([]int64, next(40)+1)
		for i := range room {
			room[i] = all[next(len(all))]
		}
		was := slices.Clone(room)
		l := room[:next(len(room)+1)]
		want := int64(top)
		for _, n := range slices.Sorted(slices.Values(l)) {
			if slices.Contains(times, n) {
				want = n
				break
			}
		}
		if got := Least(l...); got != want {
			t.Fatalf("Least(%v) is %d, not %d", l, got, want)
		}
		if !slices.Equal(room, was) {
			t.Fatalf("Least has made %v of %v", room, was)
		}
	}
}

// TestNew (P9.2): a clock for each time, none for another number.
func TestNew(t *testing.T) {
	for _, n := range numbers() {
		c, e := New(n)
		if slices.Contains(times, n) {
			if e != api.OK || c == nil || c.Now() != n {
				t.Errorf("New(%d) is %v, %v", n, c, e)
			}
		} else if e != api.ErrArg || c != nil {
			t.Errorf("New(%d) is %v, %v; not nil, ErrArg", n, c, e)
		}
	}
}

// TestGo (P9.2): Add's error of Now and by, with which the time stays; else the time is their sum.
func TestGo(t *testing.T) {
	for _, now := range times {
		for _, by := range numbers() {
			c := at(t, now)
			want, wantErr := sum(now, by)
			if wantErr != api.OK {
				want = now
			}
			if e := c.Go(by); e != wantErr || c.Now() != want {
				t.Errorf("at %d Go(%d) is %v, the time %d; not %v, %d", now, by, e, c.Now(), wantErr, want)
			}
		}
	}
}

// TestGoOn (P9.2): by 0, up to exactly MaxTick, and on after each error.
func TestGoOn(t *testing.T) {
	c := at(t, 5)
	for _, x := range []struct {
		by, now int64
		e       api.Errno
	}{
		{0, 5, api.OK},
		{1, 6, api.OK},
		{-1, 6, api.ErrArg},
		{0, 6, api.OK},
		{4, 10, api.OK},
		{math.MinInt64, 10, api.ErrArg},
		{math.MaxInt64, 10, api.ErrOver},
		{top - 10 + 1, 10, api.ErrOver},
		{top - 10 - 1, top - 1, api.OK},
		{2, top - 1, api.ErrOver},
		{-top, top - 1, api.ErrArg},
		{1, top, api.OK},
		{1, top, api.ErrOver},
		{0, top, api.OK},
		{math.MaxInt64, top, api.ErrOver},
		{-1, top, api.ErrArg},
		{0, top, api.OK},
	} {
		if e := c.Go(x.by); e != x.e {
			t.Errorf("Go(%d) is %v, not %v", x.by, e, x.e)
		}
		tells(t, c, x.now, "Go", x.by)
		if c.Now() != x.now {
			t.Error("Now changes the time")
		}
	}
}

// TestLeft (P9.2): the way up to a number, be it a time or not; 0, if it is Now or below. The time stays.
func TestLeft(t *testing.T) {
	for _, x := range []struct{ now, at, want int64 }{
		{8, 10, 2},
		{8, 9, 1},
		{8, 8, 0},
		{8, 7, 0},
		{8, 0, 0},
		{8, -1, 0},
		{8, top, top - 8},
		{8, top + 1, top - 7},
		{8, math.MaxInt64, math.MaxInt64 - 8},
		{8, math.MinInt64, 0},
		{8, math.MinInt64 + 7, 0},
		{0, 0, 0},
		{0, 1, 1},
		{0, -1, 0},
		{0, top, top},
		{0, math.MaxInt64, math.MaxInt64},
		{0, math.MinInt64, 0},
		{top, top - 1, 0},
		{top, top, 0},
		{top, top + 1, 1},
		{top, -1, 0},
		{top, -top, 0},
		{top, math.MaxInt64, math.MaxInt64 - top},
		{top, math.MinInt64, 0},
	} {
		c := at(t, x.now)
		if got := c.Left(x.at); got != x.want {
			t.Errorf("at %d Left(%d) is %d, not %d", x.now, x.at, got, x.want)
		}
		tells(t, c, x.now, "Left", x.at)
	}
	for _, now := range times {
		c := at(t, now)
		for _, n := range numbers() {
			way := new(big.Int).Sub(big.NewInt(n), big.NewInt(now))
			if way.Sign() < 0 {
				way.SetInt64(0)
			}
			if got := c.Left(n); way.Cmp(big.NewInt(got)) != 0 {
				t.Errorf("at %d Left(%d) is %d, not %v", now, n, got, way)
			}
			tells(t, c, now, "Left", n)
		}
	}
}

// TestLeftIsUp (P9.2): by what is left up to a time a clock goes just to it.
func TestLeftIsUp(t *testing.T) {
	for _, from := range times {
		for _, to := range times {
			c := at(t, from)
			if e := c.Go(c.Left(to)); e != api.OK || c.Now() != max(from, to) || c.Left(to) != 0 {
				t.Errorf("from %d up to %d: %v, the time %d, left %d", from, to, e, c.Now(), c.Left(to))
			}
		}
	}
}

// TestNil (P9.2, R3): nil, and a clock that New did not make, tell 0, refuse to go by anything, and do nothing.
func TestNil(t *testing.T) {
	for _, x := range []struct {
		what string
		c    *Clock
	}{{"nil", nil}, {"a zero clock", &Clock{}}, {"a new clock", new(Clock)}} {
		for _, n := range numbers() {
			if e := x.c.Go(n); e != api.ErrNil {
				t.Errorf("Go(%d) of %s is %v", n, x.what, e)
			}
			if got := x.c.Left(n); got != 0 {
				t.Errorf("Left(%d) of %s is %d", n, x.what, got)
			}
			if got := x.c.Now(); got != 0 {
				t.Errorf("Now of %s is %d", x.what, got)
			}
		}
	}
}

// TestOfItsOwn (P9.2, R6): a clock goes by itself, whatever others do that were made alike.
func TestOfItsOwn(t *testing.T) {
	a, b := at(t, 5), at(t, 5)
	if e := a.Go(3); e != api.OK {
		t.Fatal(e)
	}
	tells(t, a, 8, "Go", 3)
	tells(t, b, 5, "another's Go", 3)
	c := at(t, 5)
	tells(t, c, 5, "New", 5)
	if e := b.Go(1); e != api.OK {
		t.Fatal(e)
	}
	tells(t, a, 8, "another's Go", 1)
	tells(t, b, 6, "Go", 1)
	tells(t, c, 5, "another's Go", 1)
}

// TestNeverBack (P9.3): whatever it goes by, a clock tells a time, and none below that ahead of it.
func TestNeverBack(t *testing.T) {
	all := numbers()
	next := jumping(3)
	for _, from := range times {
		for range 200 {
			c := at(t, from)
			for range 30 {
				was, by := c.Now(), all[next(len(all))]
				if next(3) == 0 {
					by = int64(next(1 << 30))
				}
				e := c.Go(by)
				now := c.Now()
				if now < was || now > top || e == api.OK && now-was != by || e != api.OK && now != was {
					t.Fatalf("at %d Go(%d) is %v, the time %d", was, by, e, now)
				}
			}
		}
	}
}

// inParts makes c go by each of parts up to the first error, which it tells.
func inParts(c *Clock, parts []int64) api.Errno {
	for _, by := range parts {
		if e := c.Go(by); e != api.OK {
			return e
		}
	}
	return api.OK
}

// TestParts (P9.3): at once or in parts, a clock comes to the same time, and to the same error.
func TestParts(t *testing.T) {
	next := jumping(5)
	for _, from := range times {
		for _, by := range []int64{0, 1, 2, 3, 8, 1 << 31, top / 2, top - from - 1, top - from, top - from + 1, top, top + 1, 2 * top, math.MaxInt64 - 1, math.MaxInt64} {
			if by < 0 { // a step back has no parts
				continue
			}
			once := at(t, from)
			want := once.Go(by)
			for round := range 40 {
				var parts []int64
				rest := by
				for range round {
					part := rest / int64(1+next(6))
					parts = append(parts, part)
					rest -= part
				}
				parts = append(parts, rest)
				c := at(t, from)
				if e := inParts(c, parts); e != want || e == api.OK && c.Now() != once.Now() {
					t.Fatalf("from %d by %v: %v, the time %d; at once %v, %d", from, parts, e, c.Now(), want, once.Now())
				}
			}
		}
	}
}

// TestSingleTicks (P9.3): tick by tick, also up to MaxTick and no further.
func TestSingleTicks(t *testing.T) {
	for _, from := range []int64{0, 5, 1<<32 - 50, top - 100} {
		c, once := at(t, from), at(t, from)
		for i := range int64(100) {
			if e := c.Go(1); e != api.OK || c.Now() != from+i+1 || c.Left(from+100) != 99-i {
				t.Fatalf("%d ticks from %d: %v, the time %d, left %d", i+1, from, e, c.Now(), c.Left(from+100))
			}
		}
		if e := once.Go(100); e != api.OK || once.Now() != c.Now() {
			t.Errorf("100 ticks from %d: %v, the time %d, not %d", from, e, once.Now(), c.Now())
		}
		if from == top-100 && (c.Go(1) != api.ErrOver || once.Go(1) != api.ErrOver) {
			t.Error("beyond MaxTick")
		}
	}
}
