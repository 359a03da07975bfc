package ports

import (
	"math"
	"slices"
	"testing"

	"transom/api"
)

const top = api.MaxTick

// last is the greatest port.
const last = math.MaxUint16

// noTimes are numbers below and above all times.
var noTimes = []int64{math.MinInt64, math.MinInt64 + 1, -top - 1, -top, -2, -1, top + 1, top + 2, 2 * top, 1 << 62, math.MaxInt64 - 1, math.MaxInt64}

// times are some, with the first ones and the last ones.
var times = []int64{0, 1, 2, 4, 5, 6, 9, 49, 50, 51, 99, 100, 1 << 31, 1<<32 + 7, top / 2, top - 1, top}

// jumping tells numbers below n that hop about: the same ones for the same seed.
func jumping(seed uint64) func(n int64) int64 {
	return func(n int64) int64 {
		seed = seed*6364136223846793005 + 1442695040888963407
		x := seed ^ seed>>31
		x *= 0x9e3779b97f4a7c15
		return int64((x^x>>29)>>1) % n
	}
}

// one is a port of a plain list.
type one struct {
	port uint16
	lent bool
	from int64
}

// plain is ports told as the chapter tells them: a list of all, and at which of them to look on.
type plain struct {
	l  []one
	on int
}

func (p *plain) take(now int64) (uint16, api.Errno) {
	if now < 0 || now > top {
		return 0, api.ErrArg
	}
	for i := range p.l {
		at := (p.on + i) % len(p.l)
		if x := &p.l[at]; !x.lent && x.from <= now {
			x.lent = true
			p.on = (at + 1) % len(p.l)
			return x.port, api.OK
		}
	}
	return 0, api.ErrFull
}

func (p *plain) give(port uint16, until int64) api.Errno {
	if until < 0 || until > top {
		return api.ErrArg
	}
	for i := range p.l {
		if x := &p.l[i]; x.port == port && x.lent {
			x.lent, x.from = false, until
			return api.OK
		}
	}
	return api.ErrNone
}

func (p *plain) lent() []uint16 {
	var l []uint16
	for _, x := range p.l {
		if x.lent {
			l = append(l, x.port)
		}
	}
	return l
}

func (p *plain) free(now int64) int {
	n := 0
	for _, x := range p.l {
		if !x.lent && x.from <= now {
			n++
		}
	}
	return n
}

// both is ports, and plain ones with which the same is done: what they answer is held against each other, and so is all that can be asked of them behind each call.
type both struct {
	t *testing.T
	p *Ports
	q *plain
}

// begin is the ports from low to high.
func begin(t *testing.T, low, high uint16) *both {
	t.Helper()
	p, e := New(low, high)
	if e != api.OK || p == nil {
		t.Fatalf("New(%d, %d) is %v, %v", low, high, p, e)
	}
	q := &plain{}
	for n := int(low); n <= int(high); n++ {
		q.l = append(q.l, one{port: uint16(n)})
	}
	b := &both{t, p, q}
	b.holds("New")
	return b
}

// holds fails, unless what is asked of both is the same.
func (b *both) holds(what string) {
	b.t.Helper()
	if got, want := b.p.Lent(), b.q.lent(); !slices.Equal(got, want) {
		b.t.Fatalf("behind %s: %v are lent, not %v", what, got, want)
	}
	for _, l := range [][]int64{noTimes, times} {
		for _, now := range l {
			b.frees(what, now)
		}
	}
	for _, x := range b.q.l[:min(len(b.q.l), 50)] { // and beside each time from which on one is free
		for _, now := range []int64{x.from - 1, x.from, x.from + 1} {
			b.frees(what, now)
		}
	}
}

// frees fails, unless as many are free at now with both.
func (b *both) frees(what string, now int64) {
	b.t.Helper()
	if got, want := b.p.Free(now), b.q.free(now); got != want {
		b.t.Fatalf("behind %s: Free(%d) is %d, not %d", what, now, got, want)
	}
}

// tryTake takes, and fails unless both answer the same.
func (b *both) tryTake(now int64) (uint16, api.Errno) {
	b.t.Helper()
	want, e := b.q.take(now)
	if port, err := b.p.Take(now); port != want || err != e {
		b.t.Fatalf("Take(%d) is %d, %v; not %d, %v", now, port, err, want, e)
	}
	b.holds("Take")
	return want, e
}

// tryGive gives back, and fails unless both answer the same.
func (b *both) tryGive(port uint16, until int64) api.Errno {
	b.t.Helper()
	e := b.q.give(port, until)
	if err := b.p.Give(port, until); err != e {
		b.t.Fatalf("Give(%d, %d) is %v, not %v", port, until, err, e)
	}
	b.holds("Give")
	return e
}

// take takes, and fails unless it answers want and e.
func (b *both) take(now int64, want uint16, e api.Errno) {
	b.t.Helper()
	if port, err := b.tryTake(now); port != want || err != e {
		b.t.Fatalf("Take(%d) is %d, %v, by the plain one too; not %d, %v", now, port, err, want, e)
	}
}

// takes takes the ports of l, one behind the other.
func (b *both) takes(now int64, l ...uint16) {
	b.t.Helper()
	for _, want := range l {
		b.take(now, want, api.OK)
	}
}

// give gives back, and fails unless it answers e.
func (b *both) give(port uint16, until int64, e api.Errno) {
	b.t.Helper()
	if err := b.tryGive(port, until); err != e {
		b.t.Fatalf("Give(%d, %d) is %v, by the plain one too; not %v", port, until, err, e)
	}
}

// TestExample: that of the chapter.
func TestExample(t *testing.T) {
	b := begin(t, 1, 3)
	b.takes(0, 1, 2)
	b.give(1, 9, api.OK)
	b.take(5, 3, api.OK)
	b.take(5, 0, api.ErrFull)
	b.take(9, 1, api.OK)
}

// TestNew (P11.1): the ports from low, from 1 on, to high, all of them free; none for others.
func TestNew(t *testing.T) {
	for _, x := range []struct {
		low, high uint16
		e         api.Errno
	}{
		{0, 0, api.ErrArg},
		{0, 1, api.ErrArg},
		{0, 2, api.ErrArg},
		{0, last, api.ErrArg},
		{1, 0, api.ErrArg},
		{1, 1, api.OK},
		{1, 2, api.OK},
		{1, last, api.OK},
		{2, 1, api.ErrArg},
		{2, 0, api.ErrArg},
		{2, 2, api.OK},
		{1024, 1023, api.ErrArg},
		{1024, 1024, api.OK},
		{32767, 32768, api.OK},
		{32768, 32767, api.ErrArg},
		{last, 0, api.ErrArg},
		{last, 1, api.ErrArg},
		{last, last - 1, api.ErrArg},
		{last, last, api.OK},
		{last - 1, last, api.OK},
	} {
		p, e := New(x.low, x.high)
		if e != x.e || (p == nil) != (e != api.OK) {
			t.Errorf("New(%d, %d) is %v, %v", x.low, x.high, p, e)
			continue
		}
		if e != api.OK {
			continue
		}
		n := int(x.high) - int(x.low) + 1
		if p.Free(0) != n || p.Free(top) != n || p.Free(-1) != 0 || len(p.Lent()) != 0 {
			t.Errorf("New(%d, %d): %d are free, %v lent", x.low, x.high, p.Free(0), p.Lent())
		}
		if port, e := p.Take(0); port != x.low || e != api.OK {
			t.Errorf("New(%d, %d): the first is %d, %v", x.low, x.high, port, e)
		}
	}
}

// TestTakeAlone (P11.1): one port, the least and the greatest one too, again and again.
func TestTakeAlone(t *testing.T) {
	for _, port := range []uint16{1, 2, 255, 256, 32768, last - 1, last} {
		b := begin(t, port, port)
		free := int64(0)
		for _, until := range []int64{0, 1, 50, 7, top, 3} {
			b.take(free, port, api.OK)
			b.take(free, 0, api.ErrFull)
			b.take(top, 0, api.ErrFull)
			b.give(port, until, api.OK)
			if until > 0 {
				b.take(until-1, 0, api.ErrFull)
			}
			free = until
		}
	}
}

// TestTakeNext (P11.1): each is the next one, and behind high comes low, though one was given back just now.
func TestTakeNext(t *testing.T) {
	for _, low := range []uint16{1, 2, 1000, 32766, last - 4} {
		b := begin(t, low, low+4)
		for range 4 {
			for i := range uint16(5) {
				b.take(0, low+i, api.OK)
				b.give(low+i, 0, api.OK)
			}
		}
		b.takes(0, low, low+1, low+2, low+3, low+4)
		b.take(0, 0, api.ErrFull)
		b.give(low+4, 0, api.OK)
		b.give(low, 0, api.OK)
		b.takes(0, low, low+4)
	}
}

// TestTakeOverLent (P11.1): on over ports that are lent, one or several of them, also over high.
func TestTakeOverLent(t *testing.T) {
	b := begin(t, 10, 15)
	b.takes(0, 10, 11, 12, 13, 14, 15)
	b.give(10, 0, api.OK)
	b.give(12, 0, api.OK)
	b.give(15, 0, api.OK)
	b.takes(0, 10, 12, 15) // over 11; over 13 and 14
	b.take(0, 0, api.ErrFull)
	b.give(14, 0, api.OK)
	b.takes(0, 14) // over 10 to 13
	b.give(13, 0, api.OK)
	b.takes(0, 13) // over 15, and from low
	b.give(13, 0, api.OK)
	b.takes(0, 13) // all the way round
}

// TestTakeOverLater (P11.1): on over ports that are free only later; they are lent once they are, in their order and not by their times.
func TestTakeOverLater(t *testing.T) {
	b := begin(t, 1, 5)
	b.takes(0, 1, 2, 3, 4, 5)
	b.give(1, 100, api.OK)
	b.give(2, 5, api.OK)
	b.give(3, 50, api.OK)
	b.give(5, 5, api.OK)
	b.take(4, 0, api.ErrFull)
	b.takes(5, 2, 5) // over 1; over 3, which is later, and 4, which is lent
	b.take(49, 0, api.ErrFull)
	b.give(2, 200, api.OK)
	b.give(5, 40, api.OK)
	b.takes(50, 3, 5)
	b.take(99, 0, api.ErrFull)
	b.takes(200, 1, 2)
	b.take(top, 0, api.ErrFull)
}

// TestTakeBack (P11.1, P11.3): the times that are handed in need not rise: what is free from 50 on is not so at 49, though it was asked for at 60.
func TestTakeBack(t *testing.T) {
	b := begin(t, 1, 2)
	b.takes(60, 1)
	b.give(1, 50, api.OK)
	b.takes(60, 2)
	b.take(49, 0, api.ErrFull)
	b.takes(50, 1)
	b.give(1, 70, api.OK)
	b.give(2, 10, api.OK)
	b.take(9, 0, api.ErrFull)
	b.takes(10, 2)
	b.take(69, 0, api.ErrFull)
	b.takes(70, 1)
}

// TestTakeFull (P11.1): where there is none, nothing changes: where one looks on stays, wherever it is.
func TestTakeFull(t *testing.T) {
	for at := range uint16(5) {
		b := begin(t, 1, 5)
		b.takes(0, 1, 2, 3, 4, 5)
		b.give(at+1, 0, api.OK)
		b.takes(0, at+1) // one looks on behind it
		for range 3 {
			b.take(top, 0, api.ErrFull) // all are lent
		}
		for port := range uint16(5) {
			b.give(port+1, 30, api.OK)
		}
		for range 3 {
			b.take(29, 0, api.ErrFull) // all are free later
		}
		for i := range uint16(5) {
			b.takes(30, (at+1+i)%5+1)
		}
		b.take(30, 0, api.ErrFull)
		b.give(2, 31, api.OK)
		b.give(4, 31, api.OK)
		b.take(30, 0, api.ErrFull) // some are lent, some are free later
		if at == 1 || at == 2 {
			b.takes(31, 4, 2)
		} else {
			b.takes(31, 2, 4)
		}
	}
}

// TestTakeAll (P11.1): all that there may be, in their order, each once; and again, once they are free.
func TestTakeAll(t *testing.T) {
	p, e := New(1, last)
	if e != api.OK {
		t.Fatal(e)
	}
	for round := range int64(2) {
		for n := 1; n <= last; n++ {
			if port, e := p.Take(round); int(port) != n || e != api.OK {
				t.Fatalf("round %d: the %d. is %d, %v", round, n, port, e)
			}
		}
		for range 1000 {
			if port, e := p.Take(top); port != 0 || e != api.ErrFull {
				t.Fatalf("round %d: one more is %d, %v", round, port, e)
			}
		}
		l := p.Lent()
		if len(l) != last || p.Free(top) != 0 {
			t.Fatalf("round %d: %d are lent, %d free", round, len(l), p.Free(top))
		}
		for i, port := range l {
			if int(port) != i+1 {
				t.Fatalf("round %d: lent at %d is %d", round, i, port)
			}
		}
		for n := last; n >= 1; n-- {
			if e := p.Give(uint16(n), round+1); e != api.OK {
				t.Fatalf("round %d: Give(%d) is %v", round, n, e)
			}
		}
		if port, e := p.Take(round); port != 0 || e != api.ErrFull {
			t.Fatalf("round %d: too soon comes %d, %v", round, port, e)
		}
		if p.Free(round) != 0 || p.Free(round+1) != last || len(p.Lent()) != 0 {
			t.Fatalf("round %d: %d and %d are free, %d lent", round, p.Free(round), p.Free(round+1), len(p.Lent()))
		}
	}
}

// TestTakeTime (P11.1): at what is no time nothing is lent and nothing changes, also where there is none; 0 and MaxTick are times.
func TestTakeTime(t *testing.T) {
	b := begin(t, 7, 9)
	wrong := func() {
		t.Helper()
		for _, now := range noTimes {
			b.take(now, 0, api.ErrArg)
		}
	}
	wrong()
	b.takes(0, 7)
	wrong()
	b.takes(top, 8)
	wrong()
	b.give(7, top, api.OK)
	b.give(8, top, api.OK)
	b.takes(top-1, 9)
	wrong()
	b.take(top-1, 0, api.ErrFull)
	b.takes(top, 7, 8)
	wrong()
	b.take(0, 0, api.ErrFull)
	b.give(9, 0, api.OK)
	wrong()
	b.takes(0, 9)
}

// TestGive (P11.2): just a port that is lent is given back, and once.
func TestGive(t *testing.T) {
	b := begin(t, 10, 13)
	strange := []uint16{0, 1, 9, 14, 15, 32768, last - 1, last}
	none := func(l ...uint16) {
		t.Helper()
		for _, port := range append(slices.Clone(strange), l...) {
			b.give(port, 0, api.ErrNone)
			b.give(port, 5, api.ErrNone)
			b.give(port, top, api.ErrNone)
		}
	}
	none(10, 11, 12, 13) // at first
	b.takes(0, 10, 11)
	none(12, 13)
	b.give(10, 4, api.OK)
	none(10, 12, 13) // twice
	b.take(3, 12, api.OK)
	b.give(11, 0, api.OK)
	none(10, 11, 13)
	b.takes(4, 13, 10, 11) // when the first Give said so, and not when one that was refused did
	none()
	b.give(10, 7, api.OK)
	b.give(10, 9, api.ErrNone)
	b.give(10, 3, api.ErrNone)
	b.take(6, 0, api.ErrFull)
	b.take(7, 10, api.OK)
}

// TestGiveTime (P11.2): until what is no time is refused, ahead of a port that is not lent, and nothing changes.
func TestGiveTime(t *testing.T) {
	b := begin(t, 1, 3)
	b.takes(0, 1, 2)
	b.give(2, 6, api.OK)
	for _, until := range noTimes {
		for _, port := range []uint16{0, 1, 2, 3, 4, last} {
			b.give(port, until, api.ErrArg)
		}
	}
	b.take(5, 3, api.OK)
	b.take(5, 0, api.ErrFull)
	b.take(6, 2, api.OK)
}

// TestGiveUntil (P11.2, P11.3): it is free from until on, not a tick ahead, be until 0 or MaxTick.
func TestGiveUntil(t *testing.T) {
	for _, until := range times {
		for _, at := range []int64{0, until, top} { // when it was taken makes no difference
			b := begin(t, 5, 5)
			b.takes(at, 5)
			b.give(5, until, api.OK)
			for _, now := range times {
				if now < until {
					b.take(now, 0, api.ErrFull)
				}
			}
			if until > 0 {
				b.take(until-1, 0, api.ErrFull)
			}
			b.take(until, 5, api.OK)
		}
	}
}

// TestGiveAnew (P11.2): from when on a port is free is told by the last Give alone, be it earlier or later than the one ahead.
func TestGiveAnew(t *testing.T) {
	b := begin(t, 1, 1)
	for _, x := range [][2]int64{{50, 10}, {10, 50}, {top, 0}, {0, top}, {1, 0}, {0, 1}, {7, 7}} {
		for _, until := range x {
			b.take(top, 1, api.OK)
			b.give(1, until, api.OK)
		}
		if x[1] > 0 {
			b.take(x[1]-1, 0, api.ErrFull)
		}
		b.take(x[1], 1, api.OK)
		b.give(1, 3, api.OK)
	}
}

// TestGiveMovesNothing (P11.2): where one looks on stays, whichever port is given back.
func TestGiveMovesNothing(t *testing.T) {
	b := begin(t, 1, 6)
	b.takes(0, 1, 2, 3)
	b.give(3, 0, api.OK) // the one just ahead
	b.takes(0, 4)
	b.give(1, 0, api.OK)
	b.give(4, 0, api.OK)
	b.give(2, 0, api.OK)
	b.takes(0, 5, 6, 1, 2, 3, 4)
	b.give(4, 0, api.OK)
	b.give(9, 0, api.ErrNone)
	b.give(6, 0, api.OK)
	b.give(5, 0, api.OK) // the one at which one looks on
	b.takes(0, 5, 6, 4)
}

// TestLent (P11.2): none, one, several, all; rising, whatever the order in which they were taken.
func TestLent(t *testing.T) {
	b := begin(t, 300, 307)
	is := func(want ...uint16) {
		t.Helper()
		if got := b.p.Lent(); !slices.Equal(got, want) {
			t.Errorf("%v are lent, not %v", got, want)
		}
	}
	is()
	b.takes(0, 300)
	is(300)
	b.takes(0, 301, 302, 303, 304)
	is(300, 301, 302, 303, 304)
	b.give(300, 0, api.OK)
	b.give(302, 0, api.OK)
	is(301, 303, 304)
	b.takes(0, 305, 306, 307)
	b.give(306, 0, api.OK)
	b.takes(0, 300, 302, 306)
	is(300, 301, 302, 303, 304, 305, 306, 307)
	b.take(0, 0, api.ErrFull)
	is(300, 301, 302, 303, 304, 305, 306, 307)
	for _, port := range []uint16{303, 300, 307, 301, 306} {
		b.give(port, 8, api.OK)
	}
	is(302, 304, 305)
	b.takes(8, 307, 300, 301) // the greatest one first
	is(300, 301, 302, 304, 305, 307)
	for _, port := range []uint16{300, 301, 302, 304, 305, 307} {
		b.give(port, 0, api.OK)
	}
	is()
}

// TestAnswersStay (R5): what Lent has answered stays as it was, whatever is called afterwards, and what is done to it changes nothing.
func TestAnswersStay(t *testing.T) {
	type answer struct{ l, was []uint16 }
	var answers []answer
	b := begin(t, 1, 40)
	next := jumping(8)
	for now := range int64(600) {
		if next(3) > 0 {
			b.tryTake(now)
		} else {
			b.tryGive(uint16(1+next(40)), now+next(30))
		}
		l := b.p.Lent()
		answers = append(answers, answer{l, slices.Clone(l)})
	}
	for i, a := range answers {
		if !slices.Equal(a.l, a.was) {
			t.Fatalf("answer %d has become %v of %v", i, a.l, a.was)
		}
	}
	l := b.p.Lent()
	for i := range l {
		l[i] = 7
	}
	_ = append(l[:0], 1, 2, 3, 4)
	b.holds("a change of an answer")
}

// TestFree (P11.2): those that are not lent, and free at that number, be it a time or not.
func TestFree(t *testing.T) {
	b := begin(t, 1, 4)
	type row struct {
		now  int64
		want int
	}
	are := func(l ...row) {
		t.Helper()
		for _, x := range append(l, row{-1, 0}, row{-top, 0}, row{math.MinInt64, 0}) {
			if got := b.p.Free(x.now); got != x.want {
				t.Errorf("Free(%d) is %d, not %d", x.now, got, x.want)
			}
		}
	}
	are(row{0, 4}, row{1, 4}, row{top, 4}, row{top + 1, 4}, row{math.MaxInt64, 4})
	b.takes(3, 1, 2, 3)
	are(row{0, 1}, row{3, 1}, row{top, 1}, row{math.MaxInt64, 1})
	b.give(2, 5, api.OK)
	are(row{0, 1}, row{4, 1}, row{5, 2}, row{6, 2}, row{math.MaxInt64, 2})
	b.give(1, top, api.OK)
	are(row{4, 1}, row{5, 2}, row{top - 1, 2}, row{top, 3}, row{top + 1, 3}, row{math.MaxInt64, 3})
	b.give(3, 0, api.OK)
	are(row{0, 2}, row{4, 2}, row{5, 3}, row{top - 1, 3}, row{top, 4}, row{2 * top, 4}, row{math.MaxInt64, 4})
	b.takes(6, 4, 2, 3) // one that was free from 5 on is not any more
	are(row{0, 0}, row{6, 0}, row{top - 1, 0}, row{top, 1}, row{math.MaxInt64, 1})
	b.takes(top, 1)
	are(row{0, 0}, row{top, 0}, row{math.MaxInt64, 0})
}

// TestNil (R3): nil, and ports that New did not make, refuse all, have none, and do nothing.
func TestNil(t *testing.T) {
	for _, p := range []*Ports{nil, {}, new(Ports)} {
		for range 2 {
			for _, now := range slices.Concat(times, noTimes) {
				if port, e := p.Take(now); port != 0 || e != api.ErrNil {
					t.Errorf("Take(%d) is %d, %v", now, port, e)
				}
				for _, port := range []uint16{0, 1, 80, last} {
					if e := p.Give(port, now); e != api.ErrNil {
						t.Errorf("Give(%d, %d) is %v", port, now, e)
					}
				}
				if n := p.Free(now); n != 0 {
					t.Errorf("Free(%d) is %d", now, n)
				}
			}
			if l := p.Lent(); l != nil {
				t.Errorf("Lent is %v", l)
			}
		}
	}
}

// TestOfItsOwn (R6): ports are lent by themselves, whatever others do that were made alike.
func TestOfItsOwn(t *testing.T) {
	a, b := begin(t, 1, 3), begin(t, 1, 3)
	a.takes(0, 1, 2)
	b.holds("another's Take")
	b.takes(0, 1)
	b.give(2, 0, api.ErrNone)
	b.give(1, 9, api.OK)
	a.holds("another's Give")
	a.take(0, 3, api.OK)
	a.take(9, 0, api.ErrFull)
	b.takes(0, 2, 3)
	b.take(8, 0, api.ErrFull)
	b.takes(9, 1)
}

// row does a long mixed row of calls with both.
func row(t *testing.T, seed uint64, low, high uint16) {
	t.Helper()
	next := jumping(seed)
	b := begin(t, low, high)
	now := next(1 << (1 + next(43)))
	far := int64(1) << next(12)
	for range 400 {
		now = min(top, now+next(far))
		at := now
		switch next(12) {
		case 0:
			at = noTimes[next(int64(len(noTimes)))]
		case 1:
			at = times[next(int64(len(times)))]
		case 2:
			at = max(0, now-next(far))
		}
		if next(2) == 0 {
			b.tryTake(at)
			continue
		}
		port := uint16(int64(low) - 1 + next(int64(high)-int64(low)+3)) // one below and one above too
		if l := b.q.lent(); len(l) > 0 && next(3) > 0 {
			port = l[next(int64(len(l)))]
		}
		if at >= 0 && at < top {
			at = min(top, at+next(8*far))
		}
		b.tryGive(port, at)
	}
}

// TestMixedRows (P11.1, P11.2, P11.3): against a plain list of ports, of several lengths, at both ends.
func TestMixedRows(t *testing.T) {
	for seed := range uint64(40) {
		row(t, seed, 1, 1)
		row(t, seed+100, 1, 2)
		row(t, seed+200, 1, 5)
		row(t, seed+300, 1000, 1000+uint16(seed))
		row(t, seed+400, last, last)
		row(t, seed+500, last-3, last)
		row(t, seed+600, last-uint16(seed), last)
	}
}

// TestNeverTwice (P11.3): no port is lent that is lent already, nor ahead of the time from which on it is free; each is one from low to high.
func TestNeverTwice(t *testing.T) {
	next := jumping(11)
	for _, x := range [][2]uint16{{1, 1}, {1, 30}, {500, 900}, {last - 100, last}, {1, last}} {
		p, _ := New(x[0], x[1])
		out := map[uint16]bool{}
		until := map[uint16]int64{}
		var l []uint16
		now := int64(0)
		for range 20000 {
			now += next(3)
			if next(5) < 3 {
				port, e := p.Take(now)
				if e != api.OK {
					continue
				}
				if out[port] || until[port] > now || port < x[0] || port > x[1] {
					t.Fatalf("at %d %d is lent: out %t, free from %d on", now, port, out[port], until[port])
				}
				out[port] = true
				l = append(l, port)
			} else if len(l) > 0 {
				i := next(int64(len(l)))
				port := l[i]
				l = slices.Delete(l, int(i), int(i)+1)
				until[port] = now + next(200)
				out[port] = false
				if e := p.Give(port, until[port]); e != api.OK {
					t.Fatalf("at %d Give(%d) is %v", now, port, e)
				}
			}
		}
	}
}

// TestKeepsLittle: what is kept is of those that are lent, or free only from a time on.
func TestKeepsLittle(t *testing.T) {
	p, _ := New(1, last)
	for round := range int64(3) {
		for range 1000 {
			port, _ := p.Take(round)
			if e := p.Give(port, 0); e != api.OK {
				t.Fatal(e)
			}
		}
		if len(p.lent) != 0 || len(p.from) != 0 {
			t.Fatalf("round %d: %d and %d are kept", round, len(p.lent), len(p.from))
		}
	}
	one, _ := New(9, 9)
	for now := range int64(100) {
		port, _ := one.Take(now)
		if len(one.lent) != 1 || len(one.from) != 0 {
			t.Fatalf("at %d: %d and %d are kept", now, len(one.lent), len(one.from))
		}
		if e := one.Give(port, now+1); e != api.OK || len(one.lent) != 0 || len(one.from) != 1 {
			t.Fatalf("at %d: %v, %d and %d are kept", now, e, len(one.lent), len(one.from))
		}
	}
}
