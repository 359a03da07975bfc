package wheel

import (
	"cmp"
	"math"
	"slices"
	"strconv"
	"testing"

	"transom/api"
)

const top = api.MaxTick

// noTimes are numbers below and above all times.
var noTimes = []int64{math.MinInt64, math.MinInt64 + 1, -top - 1, -top, -2, -1, top + 1, top + 2, 2 * top, 1 << 62, math.MaxInt64 - 1, math.MaxInt64}

// starts are times to begin at: the ends, and those beside which many digits turn.
var starts = []int64{0, 1, 5, 31, 32, 1<<10 - 1, 1 << 20, 1<<25 - 1, 1<<32 - 50, 1<<40 - 1, top / 2, top - 1100, top - 33, top - 2, top - 1, top}

// jumping tells numbers below n that hop about: the same ones for the same seed.
func jumping(seed uint64) func(n int64) int64 {
	return func(n int64) int64 {
		seed = seed*6364136223846793005 + 1442695040888963407
		x := seed ^ seed>>31
		x *= 0x9e3779b97f4a7c15
		return int64((x^x>>29)>>1) % n
	}
}

// plain is a wheel told as the chapter tells it: a list of timers, in the order in which they were set.
type plain[K comparable] struct {
	now  int64
	most int
	l    []Due[K]
}

func (p *plain[K]) find(key K) int {
	return slices.IndexFunc(p.l, func(d Due[K]) bool { return d.Key == key })
}

func (p *plain[K]) set(key K, at int64) api.Errno {
	if at < 0 || at > top || at <= p.now {
		return api.ErrArg
	}
	if i := p.find(key); i >= 0 {
		p.l = slices.Delete(p.l, i, i+1)
	} else if len(p.l) == p.most {
		return api.ErrFull
	}
	p.l = append(p.l, Due[K]{key, at})
	return api.OK
}

func (p *plain[K]) stop(keys ...K) int {
	n := 0
	for _, key := range keys {
		if i := p.find(key); i >= 0 {
			p.l = slices.Delete(p.l, i, i+1)
			n++
		}
	}
	return n
}

func (p *plain[K]) until(now int64) ([]Due[K], api.Errno) {
	if now < 0 || now > top {
		return nil, api.ErrArg
	}
	if now < p.now {
		return nil, api.ErrOver
	}
	p.now = now
	var due, rest []Due[K]
	for _, d := range p.l {
		if d.At <= now {
			due = append(due, d)
		} else {
			rest = append(rest, d)
		}
	}
	p.l = rest
	slices.SortStableFunc(due, func(a, b Due[K]) int { return cmp.Compare(a.At, b.At) })
	return due, api.OK
}

func (p *plain[K]) at(key K) (int64, bool) {
	if i := p.find(key); i >= 0 {
		return p.l[i].At, true
	}
	return 0, false
}

func (p *plain[K]) next() (int64, bool) {
	if len(p.l) == 0 {
		return 0, false
	}
	return slices.MinFunc(p.l, func(a, b Due[K]) int { return cmp.Compare(a.At, b.At) }).At, true
}

// both is a wheel, and a plain one with which the same is done: what they answer is held against each other, and so is all that can be asked of them behind each call.
type both[K comparable] struct {
	t    *testing.T
	w    *Wheel[K]
	p    *plain[K]
	keys []K
}

// begin is a wheel of which keys may be asked.
func begin[K comparable](t *testing.T, now int64, most int, keys ...K) *both[K] {
	t.Helper()
	w, e := New[K](now, most)
	if e != api.OK || w == nil {
		t.Fatalf("New(%d, %d) is %v, %v", now, most, w, e)
	}
	b := &both[K]{t, w, &plain[K]{now: now, most: most}, keys}
	b.holds("New")
	return b
}

// holds fails, unless what is asked of both is the same.
func (b *both[K]) holds(what string) {
	b.t.Helper()
	if b.w.Now() != b.p.now || b.w.Len() != len(b.p.l) {
		b.t.Fatalf("behind %s: now %d, %d timers; not %d, %d", what, b.w.Now(), b.w.Len(), b.p.now, len(b.p.l))
	}
	at, ok := b.w.Next()
	if wantAt, want := b.p.next(); at != wantAt || ok != want {
		b.t.Fatalf("behind %s: Next is %d, %t; not %d, %t", what, at, ok, wantAt, want)
	}
	for _, key := range b.keys {
		at, ok := b.w.At(key)
		if wantAt, want := b.p.at(key); at != wantAt || ok != want {
			b.t.Fatalf("behind %s: At(%v) is %d, %t; not %d, %t", what, key, at, ok, wantAt, want)
		}
	}
}

// set sets, and fails unless it answers want.
func (b *both[K]) set(key K, at int64, want api.Errno) {
	b.t.Helper()
	if e := b.p.set(key, at); e != want {
		b.t.Fatalf("Set(%v, %d) is to be %v, says the plain one", key, at, e)
	}
	if e := b.w.Set(key, at); e != want {
		b.t.Fatalf("Set(%v, %d) is %v, not %v", key, at, e, want)
	}
	b.holds("Set")
}

// stop stops, and fails unless it answers want.
func (b *both[K]) stop(want int, keys ...K) {
	b.t.Helper()
	was := slices.Clone(keys)
	if n := b.p.stop(keys...); n != want {
		b.t.Fatalf("Stop(%v) is to be %d, says the plain one", keys, n)
	}
	if n := b.w.Stop(keys...); n != want {
		b.t.Fatalf("Stop(%v) is %d, not %d", keys, n, want)
	}
	if !slices.Equal(keys, was) {
		b.t.Fatalf("Stop has made %v of %v", keys, was)
	}
	b.holds("Stop")
}

// goes goes, and fails unless just want is told.
func (b *both[K]) goes(now int64, want ...Due[K]) {
	b.t.Helper()
	l, e := b.p.until(now)
	if e != api.OK || !slices.Equal(l, want) {
		b.t.Fatalf("Go(%d) is to be %v, %v, says the plain one", now, l, e)
	}
	if l, e := b.w.Go(now); e != api.OK || !slices.Equal(l, want) {
		b.t.Fatalf("Go(%d) is %v, %v; not %v", now, l, e, want)
	}
	b.holds("Go")
}

// refuses goes, and fails unless that is refused with want.
func (b *both[K]) refuses(now int64, want api.Errno) {
	b.t.Helper()
	if l, e := b.w.Go(now); e != want || len(l) > 0 {
		b.t.Fatalf("Go(%d) is %v, %v; not %v", now, l, e, want)
	}
	b.holds("Go")
}

// drains goes up to the last time: all timers that are left are told, as the plain one has them.
func (b *both[K]) drains() {
	b.t.Helper()
	want, _ := b.p.until(top)
	if l, e := b.w.Go(top); e != api.OK || !slices.Equal(l, want) {
		b.t.Fatalf("what is left is %v, %v; not %v", l, e, want)
	}
	b.holds("the last Go")
}

// d is a timer of a text.
func d(key string, at int64) Due[string] {
	return Due[string]{key, at}
}

// TestExample: that of the chapter.
func TestExample(t *testing.T) {
	b := begin(t, 0, 3, "a", "b", "c")
	b.set("a", 5, api.OK)
	b.set("b", 3, api.OK)
	b.set("c", 5, api.OK)
	b.goes(4, d("b", 3))
	b.set("a", 5, api.OK)
	b.goes(9, d("c", 5), d("a", 5))
}

// TestNew (P10.1): of each time, for 0 to MaxTimers timers, none of others; at a limit all is as below it.
func TestNew(t *testing.T) {
	times := append([]int64{0, 1, top - 1, top}, starts...)
	mosts := []int{0, 1, 2, api.MaxTimers - 1, api.MaxTimers}
	for _, most := range mosts {
		for _, now := range times {
			w, e := New[string](now, most)
			if e != api.OK || w == nil {
				t.Fatalf("New(%d, %d) is %v, %v", now, most, w, e)
			}
			if at, ok := w.Next(); w.Now() != now || w.Len() != 0 || at != 0 || ok {
				t.Errorf("New(%d, %d) has %d timers, its time is %d", now, most, w.Len(), w.Now())
			}
			if l, e := w.Go(now); e != api.OK || len(l) > 0 {
				t.Errorf("Go(%d) of a new wheel is %v, %v", now, l, e)
			}
		}
		for _, now := range noTimes {
			if w, e := New[string](now, most); w != nil || e != api.ErrArg {
				t.Errorf("New(%d, %d) is %v, %v", now, most, w, e)
			}
		}
	}
	for _, most := range []int{-1, -2, math.MinInt, api.MaxTimers + 1, api.MaxTimers + 2, 2 * api.MaxTimers, math.MaxInt} {
		for _, now := range append(times, noTimes...) {
			if w, e := New[string](now, most); w != nil || e != api.ErrArg {
				t.Errorf("New(%d, %d) is %v, %v", now, most, w, e)
			}
		}
	}
}

// TestSetTime (P10.1): for each time above now, and for nothing else; with an error nothing changes, also a timer of that key.
func TestSetTime(t *testing.T) {
	for _, now := range starts {
		b := begin(t, now, 2, "a", "b")
		wrong := append([]int64{now, now - 1, now / 2, 0}, noTimes...)
		for _, at := range wrong {
			b.set("a", at, api.ErrArg)
		}
		if now == top {
			continue // no time is above it
		}
		b.set("a", now+1, api.OK)
		for _, at := range wrong {
			b.set("a", at, api.ErrArg)
			b.set("b", at, api.ErrArg)
		}
		b.set("b", top, api.OK)
		for _, at := range wrong { // a time that may not be is told ahead of a wheel that is full
			b.set("c", at, api.ErrArg)
		}
		if now+1 < top {
			b.goes(now+1, d("a", now+1))
			b.goes(top, d("b", top))
		} else {
			b.goes(top, d("a", top), d("b", top))
		}
	}
}

// TestSetAnew (P10.1): one timer of a key, for the time of the last Set, behind those of that time that were set before it.
func TestSetAnew(t *testing.T) {
	b := begin(t, 10, 3, "a", "b", "c")
	b.set("a", 20, api.OK)
	b.set("b", 20, api.OK)
	b.set("c", 20, api.OK)
	b.set("a", 20, api.OK)
	b.set("b", 5000, api.OK)
	b.set("b", 20, api.OK)
	b.goes(30, d("c", 20), d("a", 20), d("b", 20))
	b.set("a", 40, api.OK)
	b.set("a", 35, api.OK) // earlier
	b.goes(36, d("a", 35))
	b.set("a", 40, api.OK)
	b.set("a", 45, api.OK) // later
	b.goes(44)
	b.goes(45, d("a", 45))
	b.drains()
}

// TestSetFull (P10.1): with most timers a new key is refused, and nothing changes; a key that is there is set anew; a timer that goes makes room.
func TestSetFull(t *testing.T) {
	none := begin(t, 3, 0, "a")
	none.set("a", 4, api.ErrFull)
	none.set("a", 3, api.ErrArg)
	none.stop(0, "a")
	none.drains()

	one := begin(t, 3, 1, "a", "b")
	one.set("a", 9, api.OK)
	one.set("b", 9, api.ErrFull)
	one.set("b", 4, api.ErrFull)
	one.set("a", 7, api.OK)
	one.set("b", 9, api.ErrFull)
	one.goes(7, d("a", 7))
	one.set("b", 8, api.OK)
	one.set("a", 8, api.ErrFull)
	one.stop(1, "b")
	one.set("a", 8, api.OK)
	one.set("a", 8, api.OK)
	one.drains()

	b := begin(t, 0, 3, "a", "b", "c", "x")
	b.set("a", 9, api.OK)
	b.set("b", 5000, api.OK)
	b.set("c", 9, api.OK)
	b.set("x", 9, api.ErrFull)
	b.set("x", 0, api.ErrArg)
	b.set("a", 9, api.OK) // comes last
	b.set("x", 10, api.ErrFull)
	b.stop(0, "x")
	b.goes(9, d("c", 9), d("a", 9))
	b.set("x", 5000, api.OK)
	b.set("a", 5000, api.OK)
	b.set("c", 5000, api.ErrFull)
	b.goes(6000, d("b", 5000), d("x", 5000), d("a", 5000))
	b.set("c", 6001, api.OK)
	b.drains()
}

// TestMany (P10.1, P10.2): MaxTimers of them, and not one more, again and again: all at one time, each at a time of its own, rising and falling.
func TestMany(t *testing.T) {
	w, e := New[int](0, api.MaxTimers)
	if e != api.OK {
		t.Fatal(e)
	}
	now := int64(0)
	for round, when := range []func(i int64) int64{
		func(i int64) int64 { return 70 },
		func(i int64) int64 { return i + 1 },
		func(i int64) int64 { return api.MaxTimers - i },
		func(i int64) int64 { return 1 + i*i*i%5003*1001 },
		func(i int64) int64 { return top - now - i/3 },
	} {
		var want []Due[int]
		for i := range api.MaxTimers {
			at := now + when(int64(i))
			want = append(want, Due[int]{i, at})
			if e := w.Set(i, at); e != api.OK || w.Len() != i+1 {
				t.Fatalf("round %d: Set(%d, %d) is %v, %d timers", round, i, at, e, w.Len())
			}
		}
		for _, key := range []int{-1, api.MaxTimers, api.MaxTimers + 1} {
			if e := w.Set(key, top); e != api.ErrFull || w.Len() != api.MaxTimers {
				t.Fatalf("round %d: Set beyond most is %v, %d timers", round, e, w.Len())
			}
		}
		slices.SortStableFunc(want, func(a, b Due[int]) int { return cmp.Compare(a.At, b.At) })
		if at, ok := w.Next(); at != want[0].At || !ok {
			t.Fatalf("round %d: Next is %d, %t", round, at, ok)
		}
		now = want[len(want)-1].At
		l, e := w.Go(now)
		if e != api.OK || !slices.Equal(l, want) || w.Len() != 0 {
			t.Fatalf("round %d: Go(%d) is %v, %d told", round, now, e, len(l))
		}
	}
}

// TestStop (P10.1): the timers that there are go, and are counted, one key in a call once.
func TestStop(t *testing.T) {
	b := begin(t, 0, 6, "a", "b", "c", "d", "e", "")
	all := func() {
		t.Helper()
		for i, key := range []string{"a", "b", "c", "d", "e", ""} {
			b.set(key, b.p.now+[]int64{50, 50, 50, 7, 4000, 50}[i], api.OK)
		}
	}
	b.stop(0)
	b.stop(0, "a")
	all()
	b.stop(0)
	b.stop(0, "x")
	b.stop(1, "a") // the first of its slot
	b.stop(0, "a")
	b.stop(1, "c", "c", "c") // one between
	b.stop(1, "x", "", "y")  // the last one
	b.goes(8, d("d", 7))
	b.stop(0, "d") // it was told
	b.goes(60, d("b", 50))
	b.stop(1, "e", "b")
	b.goes(5000)
	all()
	b.stop(2, "b", "x", "e", "b", "e")
	b.stop(4, "a", "b", "c", "d", "e", "")
	b.drains()

	c := begin(t, 0, 3, "a", "b", "c")
	c.set("a", 9, api.OK)
	c.set("b", 9, api.OK)
	c.set("a", 10, api.OK)
	c.stop(1, "a")
	c.set("c", 9, api.OK)
	c.set("a", 9, api.OK)
	c.goes(9, d("b", 9), d("c", 9), d("a", 9))
	c.stop(0, "a", "b", "c")
}

// TestGo (P10.2): what is due, by rising times, of one time as it was set; the same time again; what is refused changes nothing.
func TestGo(t *testing.T) {
	b := begin(t, 0, 9, "a", "b", "c", "d", "e", "f")
	b.goes(0)
	b.goes(4) // no timer
	b.set("a", 6, api.OK)
	b.goes(5)
	b.goes(5)
	b.goes(6, d("a", 6)) // just at its time
	b.goes(6)
	b.set("a", 7, api.OK)
	b.goes(8, d("a", 7)) // beyond it
	b.set("f", 1000, api.OK)
	b.set("e", 40, api.OK)
	b.set("c", 30, api.OK)
	b.set("d", 40, api.OK)
	b.set("b", 30, api.OK)
	b.set("a", 9, api.OK)
	b.set("c", 30, api.OK)
	for _, now := range []int64{7, 6, 5, 1, 0} {
		b.refuses(now, api.ErrOver)
	}
	for _, now := range noTimes { // also those below the wheel's time
		b.refuses(now, api.ErrArg)
	}
	b.goes(8)
	b.goes(999, d("a", 9), d("b", 30), d("c", 30), d("e", 40), d("d", 40))
	b.refuses(998, api.ErrOver)
	b.goes(top, d("f", 1000))
	b.goes(top)
	b.refuses(top-1, api.ErrOver)
	b.refuses(0, api.ErrOver)
	b.refuses(top+1, api.ErrArg)
	b.refuses(-1, api.ErrArg)
}

// TestEachDigit (P10.2): from each start, timers about each power of two above it: told just at their time, whether Go comes there tick by tick beside them or at once.
func TestEachDigit(t *testing.T) {
	for _, from := range starts {
		var times []int64
		for i := range 45 {
			for _, at := range []int64{from + 1<<i - 1, from + 1<<i, from + 1<<i + 1, 1<<i - 1, 1 << i, 1<<i + 1, from | (1<<i - 1), (from | (1<<i - 1)) + 1} {
				if at > from && at <= top {
					times = append(times, at)
				}
			}
		}
		slow, _ := New[int](from, api.MaxTimers)
		once, _ := New[int](from, api.MaxTimers)
		want := make([]Due[int], len(times))
		for i := range times {
			j := i * 7 % len(times) // hopping about; the same key twice may be set anew
			want[i] = Due[int]{i, times[j]}
			if slow.Set(i, times[j]) != api.OK || once.Set(i, times[j]) != api.OK {
				t.Fatalf("from %d: Set(%d, %d)", from, i, times[j])
			}
		}
		slices.SortStableFunc(want, func(a, b Due[int]) int { return cmp.Compare(a.At, b.At) })
		if l, e := once.Go(top); e != api.OK || !slices.Equal(l, want) {
			t.Fatalf("from %d at once: %v, %v; not %v", from, l, e, want)
		}
		rest := want
		for len(rest) > 0 {
			at := rest[0].At
			if next, ok := slow.Next(); !ok || next != at || slow.Len() != len(rest) {
				t.Fatalf("from %d at %d: Next is %d, %t, %d timers", from, slow.Now(), next, ok, slow.Len())
			}
			if l, e := slow.Go(at - 1); e != api.OK || len(l) > 0 {
				t.Fatalf("from %d: Go(%d) is %v, %v", from, at-1, l, e)
			}
			n := 0
			for n < len(rest) && rest[n].At == at {
				n++
			}
			if l, e := slow.Go(at); e != api.OK || !slices.Equal(l, rest[:n]) {
				t.Fatalf("from %d: Go(%d) is %v, %v; not %v", from, at, l, e, rest[:n])
			}
			rest = rest[n:]
		}
		if _, ok := slow.Next(); ok || slow.Len() != 0 {
			t.Fatalf("from %d: a timer is left", from)
		}
	}
}

// TestOrderAcrossSets (P10.2): timers of one time that are set at times far apart are told as they were set, and one that is set anew behind the others.
func TestOrderAcrossSets(t *testing.T) {
	for _, at := range []int64{64, 1000, 1024, 1<<20 + 3, 1 << 30, top} {
		b := begin[int](t, 0, 12)
		var want []Due[int]
		for i, ahead := range []int64{at - 1, at / 2, at / 3, 40, 33, 32, 31, 2, 1} {
			if now := at - ahead; now > b.p.now {
				b.goes(now)
			}
			b.set(i, at, api.OK)
			want = append(want, Due[int]{i, at})
		}
		b.set(3, at, api.OK)
		b.set(0, at, api.OK)
		want = append(slices.Concat(want[1:3], want[4:]), want[3], want[0])
		b.goes(at, want...)
	}
}

// TestAt (P10.2): the time of a key that is there, nothing of one that is not, that was told, stopped or set anew.
func TestAt(t *testing.T) {
	b := begin(t, 0, 4, "a")
	is := func(key string, want int64, wantOK bool) {
		t.Helper()
		if at, ok := b.w.At(key); at != want || ok != wantOK {
			t.Errorf("At(%q) is %d, %t; not %d, %t", key, at, ok, want, wantOK)
		}
	}
	is("a", 0, false)
	b.set("a", 9, api.OK)
	is("a", 9, true)
	is("", 0, false)
	is("A", 0, false)
	b.set("a", 5000, api.OK) // anew
	is("a", 5000, true)
	b.set("", 7, api.OK)
	is("", 7, true)
	b.goes(6)
	is("", 7, true)
	b.goes(7, d("", 7)) // told
	is("", 0, false)
	b.stop(1, "a") // stopped
	is("a", 0, false)
	b.set("a", top, api.OK)
	is("a", top, true)
}

// TestNext (P10.2): the least time of none, of one, of several, and when that one has gone.
func TestNext(t *testing.T) {
	b := begin(t, 0, 5, "a", "b", "c", "d")
	is := func(want int64, wantOK bool) {
		t.Helper()
		if at, ok := b.w.Next(); at != want || ok != wantOK {
			t.Errorf("Next is %d, %t; not %d, %t", at, ok, want, wantOK)
		}
	}
	is(0, false)
	b.set("a", top, api.OK)
	is(top, true)
	b.set("b", 4000, api.OK)
	is(4000, true)
	b.set("c", 4001, api.OK) // the same slot, behind it
	is(4000, true)
	b.set("d", 3999, api.OK) // the same slot, set later
	is(3999, true)
	b.set("d", 4002, api.OK) // anew, later
	is(4000, true)
	b.stop(1, "b")
	is(4001, true)
	b.goes(4000)
	is(4001, true)
	b.goes(4001, d("c", 4001))
	is(4002, true)
	b.goes(5000, d("d", 4002))
	is(top, true)
	b.set("d", 5001, api.OK)
	is(5001, true)
	b.goes(top, d("d", 5001), d("a", top))
	is(0, false)
}

// TestNil (R3): nil, and a wheel that New did not make, have nothing, refuse all, and do nothing.
func TestNil(t *testing.T) {
	for _, w := range []*Wheel[string]{nil, {}, new(Wheel[string])} {
		for _, at := range append([]int64{0, 1, 5, top}, noTimes...) {
			if e := w.Set("a", at); e != api.ErrNil {
				t.Errorf("Set(%d) is %v", at, e)
			}
			if l, e := w.Go(at); e != api.ErrNil || l != nil {
				t.Errorf("Go(%d) is %v, %v", at, l, e)
			}
		}
		if w.Stop() != 0 || w.Stop("a") != 0 || w.Stop("a", "", "a") != 0 {
			t.Error("Stop")
		}
		if at, ok := w.At("a"); at != 0 || ok {
			t.Errorf("At is %d, %t", at, ok)
		}
		if at, ok := w.Next(); at != 0 || ok {
			t.Errorf("Next is %d, %t", at, ok)
		}
		if w.Len() != 0 || w.Now() != 0 {
			t.Errorf("Len is %d, Now %d", w.Len(), w.Now())
		}
	}
}

// row does long mixed rows of calls with both.
func row[K comparable](t *testing.T, seed uint64, most int, keys ...K) {
	t.Helper()
	next := jumping(seed)
	key := func() K { return keys[next(int64(len(keys)))] }
	b := begin(t, starts[next(int64(len(starts)))]/2, most, keys...)
	for range 400 {
		far := int64(1) << next(46)
		switch next(8) {
		case 0, 1, 2, 3:
			k, at := key(), b.p.now+next(far+1)
			if next(3) == 0 {
				at = b.p.now + next(6) // so that some are of one time, or of now
			}
			e := b.p.set(k, at)
			if got := b.w.Set(k, at); got != e {
				t.Fatalf("Set(%v, %d) is %v, not %v", k, at, got, e)
			}
			b.holds("Set")
		case 4:
			l := make([]K, next(4))
			for i := range l {
				l[i] = key()
			}
			want := b.p.stop(l...)
			if got := b.w.Stop(l...); got != want {
				t.Fatalf("Stop(%v) is %d, not %d", l, got, want)
			}
			b.holds("Stop")
		default:
			now := b.p.now + next(min(far, 1<<(next(40)+1)))
			if at, ok := b.p.next(); ok && next(2) == 0 {
				now = at - 1 + next(3)
			}
			if next(9) == 0 {
				now = b.p.now - 1 - next(far)
			}
			want, e := b.p.until(now)
			if got, gotErr := b.w.Go(now); gotErr != e || !slices.Equal(got, want) {
				t.Fatalf("Go(%d) is %v, %v; not %v, %v", now, got, gotErr, want, e)
			}
			b.holds("Go")
		}
	}
	b.drains()
}

// TestMixedRows (P10.1, P10.2, P10.3): against a plain list of timers, with keys of several types.
func TestMixedRows(t *testing.T) {
	var numbers []int
	var texts []string
	for i := range 40 {
		numbers = append(numbers, i*i-7)
		texts = append(texts, strconv.Itoa(i)[:i%2])
	}
	texts = append(texts, "a", "ab", "ba", "\x00", "\xff")
	for seed := range uint64(60) {
		row(t, seed, 1+int(seed)%8, texts...)
		row(t, seed+100, int(seed), numbers...)
		row(t, seed+200, 3, uint8(0), 1, 2, 3, 255)
		row(t, seed+300, 4, api.Pair{}, api.Pair{From: api.Addr{IP: 1}}, api.Pair{To: api.Addr{IP: 1}}, api.Pair{To: api.Addr{Port: 1}}, api.Pair{From: api.Addr{Port: 1}})
		row(t, seed+400, 5, any(1), any("1"), any(int64(1)), any(nil), any(""), any([2]int{1, 2}))
		row(t, seed+500, 2, true, false)
	}
}

// TestKeysAlike (P10.1): keys are one if they are equal, whatever they are spelt from; the key that is told is that of the last Set.
func TestKeysAlike(t *testing.T) {
	b := begin(t, 0, 3, 0.0, 1.5)
	b.set(0.0, 9, api.OK)
	minus := math.Copysign(0, -1)
	b.set(minus, 9, api.OK)
	b.set(1.5, 9, api.OK)
	if l, e := b.w.Go(9); e != api.OK || len(l) != 2 || !math.Signbit(l[0].Key) || l[1].Key != 1.5 {
		t.Errorf("Go is %v, %v", l, e)
	}
}

// TestKeysNoneAlike (P10.1, P10.2, R1): a key that is not even itself is that of no timer: each is set beside the others, told when it is due, and counts to the most there may be.
func TestKeysNoneAlike(t *testing.T) {
	w, _ := New[float64](0, 2)
	nan := math.NaN()
	for round := range int64(50) {
		at := 100*round + 5
		if w.Set(nan, at) != api.OK || w.Set(nan, at) != api.OK || w.Set(nan, at) != api.ErrFull || w.Len() != 2 {
			t.Fatalf("round %d: %d timers", round, w.Len())
		}
		if _, ok := w.At(nan); ok || w.Stop(nan, nan) != 0 || w.Len() != 2 {
			t.Fatalf("round %d: it is found", round)
		}
		if l, e := w.Go(at); e != api.OK || len(l) != 2 || l[0].At != at || l[1].At != at || l[0].Key == l[0].Key || w.Len() != 0 {
			t.Fatalf("round %d: Go is %v, %v", round, l, e)
		}
		if len(w.taken) != 0 {
			t.Fatalf("round %d: %d keys are kept", round, len(w.taken))
		}
	}
}

// TestKeysThatMayNotBe (R1): a key that can't be held against others is refused, and found nowhere; nothing panics, nothing changes.
func TestKeysThatMayNotBe(t *testing.T) {
	b := begin(t, 0, 2, any("a"), any(1))
	type with struct{ x any }
	wrong := []any{[]int{1}, map[string]int{}, func() {}, with{[]int{}}, [1]any{func() {}}}
	try := func() {
		t.Helper()
		for _, key := range wrong {
			if e := b.w.Set(key, 5); e != api.ErrArg {
				t.Errorf("Set is %v", e)
			}
			if e := b.w.Set(key, 0); e != api.ErrArg {
				t.Errorf("Set at now is %v", e)
			}
			if at, ok := b.w.At(key); at != 0 || ok {
				t.Errorf("At is %d, %t", at, ok)
			}
			if n := b.w.Stop(key, key); n != 0 {
				t.Errorf("Stop is %d", n)
			}
			if e := (*Wheel[any])(nil).Set(key, 5); e != api.ErrNil {
				t.Errorf("Set of nil is %v", e)
			}
			b.holds("a key that may not be")
		}
	}
	try()
	b.set("a", 6, api.OK)
	try()
	b.set(1, 6, api.OK)
	try() // full
	if n := b.w.Stop(wrong[0], "a", wrong[1], "a"); n != 1 || b.w.Len() != 1 {
		t.Errorf("Stop among others is %d, %d timers", n, b.w.Len())
	}
	b.p.stop("a")
	b.goes(6, Due[any]{1, 6})
}

// TestOfItsOwn (R6): a wheel goes by itself, whatever others do that were made alike.
func TestOfItsOwn(t *testing.T) {
	a, b := begin(t, 0, 2, "a", "b"), begin(t, 0, 2, "a", "b")
	a.set("a", 5, api.OK)
	b.holds("another's Set")
	b.set("a", 7, api.OK)
	b.set("b", 5, api.OK)
	a.goes(6, d("a", 5))
	b.holds("another's Go")
	b.stop(1, "b")
	a.holds("another's Stop")
	b.goes(9, d("a", 7))
}

// TestAnswersStay (R5): what Go has answered stays as it was, whatever is called afterwards, and what is done to it changes nothing.
func TestAnswersStay(t *testing.T) {
	w, _ := New[int](0, 60)
	next := jumping(77)
	type answer struct{ l, was []Due[int] }
	var answers []answer
	for now := int64(1); now < 3000; now += 1 + next(40) {
		for range next(30) {
			w.Set(int(next(200)), now+next(100))
		}
		w.Stop(int(next(200)), int(next(200)))
		l, e := w.Go(now)
		if e != api.OK {
			t.Fatal(e)
		}
		answers = append(answers, answer{l, slices.Clone(l)})
	}
	for i, a := range answers {
		if !slices.Equal(a.l, a.was) {
			t.Fatalf("answer %d has become %v of %v", i, a.l, a.was)
		}
	}
	b := begin(t, 0, 6, "a", "b", "c", "d")
	for _, key := range b.keys {
		b.set(key, 5, api.OK)
	}
	b.p.until(5)
	l, _ := b.w.Go(5)
	for i := range l {
		l[i] = d("d", 3)
	}
	_ = append(l[:0], d("c", 1), d("c", 1))
	b.holds("a change of an answer")
	b.set("d", 9, api.OK)
	b.set("a", 9, api.OK)
	b.goes(9, d("d", 9), d("a", 9))
}

// TestToldOnce (P10.3): each timer is told once, by the first Go that comes to its time, unless it was stopped or set anew.
func TestToldOnce(t *testing.T) {
	next := jumping(4)
	for range 30 {
		from := starts[next(int64(len(starts)))] / 2
		w, _ := New[int](from, 500)
		until := map[int]int64{}
		for i := range 400 {
			until[i] = from + 1 + next(1<<(1+next(30)))
			w.Set(i, until[i])
		}
		for range 60 {
			i, j := int(next(400)), int(next(400))
			if w.Stop(i) == 1 {
				delete(until, i)
			}
			until[j] = from + 1 + next(1<<20)
			w.Set(j, until[j])
		}
		for now := from; len(until) > 0; {
			was := now
			now += next(1 << (1 + next(30)))
			l, _ := w.Go(now)
			for _, x := range l {
				if at, ok := until[x.Key]; !ok || at != x.At || at <= was || at > now {
					t.Fatalf("from %d to %d: %v is told, set for %d, %t", was, now, x, at, ok)
				}
				delete(until, x.Key)
			}
			for key, at := range until {
				if at <= now {
					t.Fatalf("from %d to %d: %d is not told, set for %d", was, now, key, at)
				}
			}
		}
		if l, e := w.Go(top); e != api.OK || len(l) > 0 || w.Len() != 0 {
			t.Fatalf("told again: %v, %v", l, e)
		}
	}
}

// TestParts (P10.3): at once or in parts, the same is told, in the same order.
func TestParts(t *testing.T) {
	next := jumping(6)
	for _, from := range starts {
		for round := range int64(30) {
			once, _ := New[int](from, 200)
			parts, _ := New[int](from, 200)
			span := min(int64(1)<<(round%40+1), top-from)
			for range 300 {
				key, at := int(next(150)), from+next(span+1)
				if once.Set(key, at) != parts.Set(key, at) {
					t.Fatalf("Set(%d, %d)", key, at)
				}
			}
			end := from + span
			want, _ := once.Go(end)
			var got []Due[int]
			for now := from; ; now = min(end, now+next(span/(1+next(60))+2)) {
				l, e := parts.Go(now)
				if e != api.OK {
					t.Fatalf("Go(%d) is %v", now, e)
				}
				got = append(got, l...)
				if now == end {
					break
				}
			}
			if !slices.Equal(got, want) || once.Len() != 0 || parts.Len() != 0 {
				t.Fatalf("from %d to %d: in parts %v, at once %v", from, end, got, want)
			}
		}
	}
}

// TestSingleTicks (P10.3): tick by tick, over the ends of digits.
func TestSingleTicks(t *testing.T) {
	for _, from := range []int64{0, 1000, 1<<15 - 600, 1<<25 - 7, top - 1500} {
		w, _ := New[int64](from, api.MaxTimers)
		for at := from + 1500; at > from; at-- {
			if e := w.Set(at, at); e != api.OK {
				t.Fatal(e)
			}
		}
		for now := from + 1; now <= from+1500; now++ {
			if at, ok := w.Next(); at != now || !ok {
				t.Fatalf("Next is %d, %t; not %d", at, ok, now)
			}
			if l, e := w.Go(now); e != api.OK || len(l) != 1 || l[0].Key != now || l[0].At != now {
				t.Fatalf("Go(%d) is %v, %v", now, l, e)
			}
		}
		if w.Len() != 0 {
			t.Errorf("%d timers are left", w.Len())
		}
	}
}

// TestFarOnesRest: timers of slots that now does not come to are not touched, at the ends of levels too: a step costs what is near, however many there are.
func TestFarOnesRest(t *testing.T) {
	for _, from := range []int64{0, 1<<15 - 40, 1<<20 - 70, 1<<40 - 40} {
		w, _ := New[int64](from, api.MaxTimers)
		for i := range int64(api.MaxTimers) {
			if e := w.Set(i, 1<<43+i); e != api.OK {
				t.Fatal(e)
			}
		}
		for now := from; now < from+3000; now++ {
			if l := w.reached(now); len(l) > 0 {
				t.Fatalf("from %d to %d: %d timers are touched", w.now, now, len(l))
			}
			if l, e := w.Go(now); e != api.OK || len(l) > 0 {
				t.Fatalf("Go(%d) is %v, %v", now, l, e)
			}
		}
		if w.Len() != api.MaxTimers {
			t.Errorf("from %d: %d timers are left", from, w.Len())
		}
	}
}
