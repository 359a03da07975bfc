package span

import (
	"math/bits"
	"slices"
	"testing"

	"transom/api"
)

const final = 1<<64 - 1

// small is how many numbers the lists have that are gone through one by one.
const small = 7

// bases are where these numbers begin: at 0, about 2^32 and 2^63, and as far up as spans reach.
var bases = []uint64{0, 1<<32 - 3, 1<<63 - 3, final - small}

// row is a list of spans, told by its From and To one behind the other.
func row(n ...uint64) []api.Span {
	var l []api.Span
	for i := 0; i+1 < len(n); i += 2 {
		l = append(l, api.Span{From: n[i], To: n[i+1]})
	}
	return l
}

// some is a list of n spans of two numbers each, one apart.
func some(n int) []api.Span {
	var l []api.Span
	for i := range uint64(n) {
		l = append(l, api.Span{From: 3 * i, To: 3*i + 2})
	}
	return l
}

// spansOf is the list that may be with the numbers base + i of which bit i of set is 1.
func spansOf(base uint64, set uint) []api.Span {
	var l []api.Span
	for i := range uint64(small) {
		if set>>i&1 == 0 {
			continue
		}
		if last := len(l) - 1; last >= 0 && l[last].To == base+i {
			l[last].To++
		} else {
			l = append(l, api.Span{From: base + i, To: base + i + 1})
		}
	}
	return l
}

// bitsOf are those of the numbers from base + from on, up to base + to.
func bitsOf(from, to uint64) uint {
	return (1<<to - 1) &^ (1<<from - 1)
}

// eachSmall hands over each set of small numbers at each base.
func eachSmall(do func(base uint64, set uint)) {
	for _, base := range bases {
		for set := range uint(1) << small {
			do(base, set)
		}
	}
}

// eachSpan hands over each span of small numbers, empty ones too, and those that end ahead of where they begin.
func eachSpan(do func(from, to uint64)) {
	for from := range uint64(small + 1) {
		for to := range uint64(small + 1) {
			do(from, to)
		}
	}
}

// check holds an answer against the one that is wanted.
func check(t *testing.T, what string, l []api.Span, x api.Span, got []api.Span, e api.Errno, want []api.Span, wantErr api.Errno) {
	t.Helper()
	if !slices.Equal(got, want) || e != wantErr {
		t.Errorf("%s(%v, %v) is %v, %v; not %v, %v", what, l, x, got, e, want, wantErr)
	}
}

// mayNot are lists that may not be.
func mayNot() map[string][]api.Span {
	return map[string][]api.Span{
		"touching":          row(1, 2, 2, 3),
		"touching at last":  row(1, 2, 4, 6, 6, 8),
		"overlapping":       row(1, 4, 3, 6),
		"inside":            row(1, 8, 3, 5),
		"twice":             row(1, 2, 1, 2),
		"falling":           row(5, 7, 1, 3),
		"an empty one":      row(3, 3),
		"an empty one in":   row(1, 2, 4, 4, 6, 8),
		"a zero one":        row(0, 0),
		"turned round":      row(4, 2),
		"turned round last": row(1, 2, 9, 8),
		"turned round high": row(final, 0),
		"one too many":      some(api.MaxSpans + 1),
	}
}

// TestExamples: those of the chapter.
func TestExamples(t *testing.T) {
	l, x := row(2, 4, 6, 8), api.Span{From: 4, To: 6}
	got, e := Add(l, x)
	check(t, "Add", l, x, got, e, row(2, 8), api.OK)
	l, x = row(2, 8), api.Span{From: 3, To: 5}
	got, e = Cut(l, x)
	check(t, "Cut", l, x, got, e, row(2, 3, 5, 8), api.OK)
	if a, b := Gap(row(2, 4), 2), Gap(row(2, 4), 0); a != 4 || b != 0 {
		t.Errorf("Gap is %d and %d", a, b)
	}
}

// TestMay (P2.1): lists that may be, up to the last number and to MaxSpans, and such that may not.
func TestMay(t *testing.T) {
	for _, l := range [][]api.Span{
		nil, {}, row(0, 1), row(2, 4), row(2, 4, 5, 6), row(0, 1, 2, 3, 4, 5), row(0, final), row(final-1, final),
		row(0, 1, final-1, final), some(api.MaxSpans - 1), some(api.MaxSpans),
	} {
		if !May(l) {
			t.Errorf("%v may not be", l)
		}
	}
	for name, l := range mayNot() {
		if May(l) {
			t.Errorf("%s: %v may be", name, l)
		}
	}
}

// TestMayOfAll (P2.1): of all lists of two spans just those may be that have their numbers apart, and rising.
func TestMayOfAll(t *testing.T) {
	for _, base := range bases {
		eachSpan(func(a, b uint64) {
			if want := a < b; May(row(base+a, base+b)) != want {
				t.Errorf("a list of %d..%d: it is not %t that it may be", base+a, base+b, want)
			}
			eachSpan(func(c, d uint64) {
				if want := a < b && b < c && c < d; May(row(base+a, base+b, base+c, base+d)) != want {
					t.Errorf("%d..%d %d..%d: it is not %t that it may be", base+a, base+b, base+c, base+d, want)
				}
			})
		})
	}
}

// TestAdd (P2.2): spans that are apart, touch, overlap, lie inside one another.
func TestAdd(t *testing.T) {
	for _, x := range []struct {
		l    []api.Span
		x    api.Span
		want []api.Span
	}{
		{nil, api.Span{From: 3, To: 5}, row(3, 5)},
		{nil, api.Span{}, nil},
		{nil, api.Span{From: 5, To: 5}, nil},
		{nil, api.Span{From: 0, To: final}, row(0, final)},
		{row(2, 4), api.Span{From: 6, To: 8}, row(2, 4, 6, 8)},
		{row(6, 8), api.Span{From: 2, To: 4}, row(2, 4, 6, 8)},
		{row(2, 4, 8, 10), api.Span{From: 5, To: 7}, row(2, 4, 5, 7, 8, 10)},
		{row(2, 4, 8, 10), api.Span{From: 4, To: 7}, row(2, 7, 8, 10)},
		{row(2, 4, 8, 10), api.Span{From: 5, To: 8}, row(2, 4, 5, 10)},
		{row(2, 4, 8, 10), api.Span{From: 3, To: 9}, row(2, 10)},
		{row(2, 8), api.Span{From: 3, To: 5}, row(2, 8)},
		{row(2, 8), api.Span{From: 2, To: 8}, row(2, 8)},
		{row(3, 5), api.Span{From: 2, To: 8}, row(2, 8)},
		{row(2, 3, 4, 5, 6, 7, 20, 30), api.Span{From: 1, To: 9}, row(1, 9, 20, 30)},
		// an empty one: where there is nothing, where a span begins, in one, where it ends
		{row(2, 4, 6, 8), api.Span{From: 5, To: 5}, row(2, 4, 6, 8)},
		{row(2, 4, 6, 8), api.Span{From: 6, To: 6}, row(2, 4, 6, 8)},
		{row(2, 4, 6, 8), api.Span{From: 7, To: 7}, row(2, 4, 6, 8)},
		{row(2, 4, 6, 8), api.Span{From: 8, To: 8}, row(2, 4, 6, 8)},
		{row(2, 4), api.Span{From: final, To: final}, row(2, 4)},
		{row(0, final), api.Span{From: final, To: final}, row(0, final)},
		{row(0, final-1), api.Span{From: final - 1, To: final}, row(0, final)},
		{row(final-1, final), api.Span{From: 0, To: 1}, row(0, 1, final-1, final)},
	} {
		got, e := Add(x.l, x.x)
		check(t, "Add", x.l, x.x, got, e, x.want, api.OK)
	}
}

// TestCut (P2.2): what lies beside, at an end, in the middle, all; an empty one cuts nothing.
func TestCut(t *testing.T) {
	for _, x := range []struct {
		l    []api.Span
		x    api.Span
		want []api.Span
	}{
		{nil, api.Span{From: 3, To: 5}, nil},
		{nil, api.Span{}, nil},
		{row(2, 8), api.Span{From: 0, To: 2}, row(2, 8)},
		{row(2, 8), api.Span{From: 8, To: 12}, row(2, 8)},
		{row(2, 8), api.Span{From: 0, To: 3}, row(3, 8)},
		{row(2, 8), api.Span{From: 2, To: 3}, row(3, 8)},
		{row(2, 8), api.Span{From: 7, To: 8}, row(2, 7)},
		{row(2, 8), api.Span{From: 7, To: 12}, row(2, 7)},
		{row(2, 8), api.Span{From: 2, To: 8}, nil},
		{row(2, 8), api.Span{From: 0, To: final}, nil},
		{row(2, 4, 6, 8, 10, 12), api.Span{From: 3, To: 11}, row(2, 3, 11, 12)},
		{row(2, 4, 6, 8, 10, 12), api.Span{From: 4, To: 10}, row(2, 4, 10, 12)},
		{row(2, 4, 6, 8), api.Span{From: 4, To: 6}, row(2, 4, 6, 8)},
		{row(0, final), api.Span{From: final - 1, To: final}, row(0, final-1)},
		{row(0, final), api.Span{From: 1, To: final - 1}, row(0, 1, final-1, final)},
		// an empty one: where there is nothing, where a span begins, in one, where it ends
		{row(2, 4, 6, 8), api.Span{From: 5, To: 5}, row(2, 4, 6, 8)},
		{row(2, 4, 6, 8), api.Span{From: 6, To: 6}, row(2, 4, 6, 8)},
		{row(2, 4, 6, 8), api.Span{From: 7, To: 7}, row(2, 4, 6, 8)},
		{row(2, 4, 6, 8), api.Span{From: 8, To: 8}, row(2, 4, 6, 8)},
		{row(0, final), api.Span{From: final, To: final}, row(0, final)},
	} {
		got, e := Cut(x.l, x.x)
		check(t, "Cut", x.l, x.x, got, e, x.want, api.OK)
	}
}

// TestAddAndCutOfAll (P2.2, P2.4): each list of small numbers with each span, held against their numbers one by one.
func TestAddAndCutOfAll(t *testing.T) {
	eachSmall(func(base uint64, set uint) {
		l := spansOf(base, set)
		eachSpan(func(from, to uint64) {
			x := api.Span{From: base + from, To: base + to}
			if from > to {
				got, e := Add(l, x)
				check(t, "Add", l, x, got, e, nil, api.ErrArg)
				got, e = Cut(l, x)
				check(t, "Cut", l, x, got, e, nil, api.ErrArg)
				return
			}
			got, e := Add(l, x)
			check(t, "Add", l, x, got, e, spansOf(base, set|bitsOf(from, to)), api.OK)
			got, e = Cut(l, x)
			check(t, "Cut", l, x, got, e, spansOf(base, set&^bitsOf(from, to)), api.OK)
		})
	})
}

// TestErrors (P2.2): ErrForm ahead of ErrArg, both ahead of ErrFull; no list beside an error.
func TestErrors(t *testing.T) {
	type call struct {
		name string
		do   func([]api.Span, api.Span) ([]api.Span, api.Errno)
	}
	for _, c := range []call{{"Add", Add}, {"Cut", Cut}} {
		for _, x := range []api.Span{{}, {From: 2, To: 5}, {From: 5, To: 5}, {From: 5, To: 2}, {From: final, To: 0}, {From: 0, To: final}} {
			for _, l := range mayNot() {
				got, e := c.do(l, x)
				check(t, c.name, l, x, got, e, nil, api.ErrForm)
			}
		}
		for _, x := range []api.Span{{From: 1}, {From: 5, To: 4}, {From: final, To: final - 1}, {From: final, To: 0}} {
			for _, l := range [][]api.Span{nil, row(2, 4, 6, 8), some(api.MaxSpans)} {
				got, e := c.do(l, x)
				check(t, c.name, l, x, got, e, nil, api.ErrArg)
			}
		}
	}
}

// TestFull (P2.2): MaxSpans are as fewer; one more is refused; what makes no more of them is not.
func TestFull(t *testing.T) {
	const n = api.MaxSpans
	var full []api.Span // 10..14 18..22 26..30, and so on
	for i := range uint64(n) {
		full = append(full, api.Span{From: 8*i + 10, To: 8*i + 14})
	}
	less := full[:n-1]
	end := full[n-1].To
	for _, x := range []struct {
		name string
		do   func([]api.Span, api.Span) ([]api.Span, api.Errno)
		l    []api.Span
		x    api.Span
		want []api.Span
		e    api.Errno
	}{
		{"Add", Add, less, full[n-1], full, api.OK},
		{"Add", Add, full[1:], full[0], full, api.OK},
		{"Add", Add, full, api.Span{From: end + 1, To: end + 2}, nil, api.ErrFull},
		{"Add", Add, full, api.Span{From: final - 1, To: final}, nil, api.ErrFull},
		{"Add", Add, full, api.Span{From: 0, To: 9}, nil, api.ErrFull},
		{"Add", Add, full, api.Span{From: 15, To: 17}, nil, api.ErrFull},
		{"Add", Add, full, api.Span{From: 16, To: 16}, full, api.OK},
		{"Add", Add, full, api.Span{From: 0, To: 10}, append(row(0, 14), full[1:]...), api.OK},
		{"Add", Add, full, api.Span{From: 14, To: 17}, append(row(10, 17), full[1:]...), api.OK},
		{"Add", Add, full, api.Span{From: 14, To: 18}, append(row(10, 22), full[2:]...), api.OK},
		{"Add", Add, full, api.Span{From: end, To: final}, append(slices.Clone(less), api.Span{From: full[n-1].From, To: final}), api.OK},
		{"Add", Add, full, api.Span{From: 0, To: final}, row(0, final), api.OK},
		{"Cut", Cut, full, api.Span{From: 11, To: 12}, nil, api.ErrFull},
		{"Cut", Cut, full, api.Span{From: end - 3, To: end - 1}, nil, api.ErrFull},
		{"Cut", Cut, less, api.Span{From: 11, To: 12}, append(row(10, 11, 12, 14), less[1:]...), api.OK},
		{"Cut", Cut, full, api.Span{From: 12, To: 12}, full, api.OK},
		{"Cut", Cut, full, api.Span{From: 14, To: 18}, full, api.OK},
		{"Cut", Cut, full, api.Span{From: 10, To: 12}, append(row(12, 14), full[1:]...), api.OK},
		{"Cut", Cut, full, api.Span{From: 11, To: 19}, append(row(10, 11, 19, 22), full[2:]...), api.OK},
		{"Cut", Cut, full, full[0], full[1:], api.OK},
	} {
		got, e := x.do(x.l, x.x)
		check(t, x.name, x.l, x.x, got, e, x.want, x.e)
	}
}

// TestQuestions (P2.3): Has, Covers, Gap and Len of each list of small numbers, held against their numbers one by one.
func TestQuestions(t *testing.T) {
	eachSmall(func(base uint64, set uint) {
		l := spansOf(base, set)
		for n := range uint64(small) {
			if want := set>>n&1 == 1; Has(l, base+n) != want {
				t.Errorf("Has(%v, %d) is not %t", l, base+n, want)
			}
			want := base + n + uint64(bits.TrailingZeros(^(set >> n)))
			if got := Gap(l, base+n); got != want {
				t.Errorf("Gap(%v, %d) is %d, not %d", l, base+n, got, want)
			}
		}
		for _, n := range []uint64{base - 1, base + small} { // at 0 the one ahead is 2^64 - 1
			if Has(l, n) || Gap(l, n) != n {
				t.Errorf("%d is taken for one of %v", n, l)
			}
		}
		eachSpan(func(from, to uint64) {
			want := from <= to && set&bitsOf(from, to) == bitsOf(from, to)
			if got := Covers(l, api.Span{From: base + from, To: base + to}); got != want {
				t.Errorf("Covers(%v, %d..%d) is %t", l, base+from, base+to, got)
			}
		})
		if got, want := Len(l), uint64(bits.OnesCount(set)); got != want {
			t.Errorf("Len(%v) is %d, not %d", l, got, want)
		}
	})
}

// TestQuestionsAtTheEnds (P2.3): all numbers, none, and as many spans as may be.
func TestQuestionsAtTheEnds(t *testing.T) {
	all := row(0, final)
	if !Has(all, 0) || !Has(all, final-1) || Has(all, final) {
		t.Error("Has of all numbers")
	}
	if !Covers(all, all[0]) || !Covers(all, api.Span{From: final, To: final}) || Covers(all, api.Span{From: final, To: 0}) {
		t.Error("Covers of all numbers")
	}
	if Gap(all, 0) != final || Gap(all, final-1) != final || Gap(all, final) != final || Gap(row(2, 4), final) != final {
		t.Error("Gap of all numbers")
	}
	if Len(all) != final || Len(row(0, 1, final-1, final)) != 2 || Len(row(0, final-2, final-1, final)) != final-1 {
		t.Error("Len of all numbers")
	}
	for _, none := range [][]api.Span{nil, {}} {
		if Has(none, 0) || Has(none, final) || Covers(none, api.Span{From: 1, To: 2}) || Gap(none, 0) != 0 || Gap(none, 77) != 77 || Gap(none, final) != final || Len(none) != 0 {
			t.Error("a list without spans has numbers")
		}
		if !Covers(none, api.Span{}) || !Covers(none, api.Span{From: 5, To: 5}) || Covers(none, api.Span{From: 5, To: 4}) {
			t.Error("Covers of a list without spans")
		}
	}
	full := some(api.MaxSpans)
	for i, x := range full {
		if !Has(full, x.From) || !Has(full, x.To-1) || Has(full, x.To) || Gap(full, x.From) != x.To || Gap(full, x.To) != x.To || !Covers(full, x) {
			t.Errorf("span %d of many is not found", i)
		}
		if Covers(full, api.Span{From: x.From, To: x.To + 1}) || Covers(full, api.Span{From: x.From, To: x.To + 2}) {
			t.Errorf("the gap behind span %d of many is covered", i)
		}
	}
	if Len(full) != 2*api.MaxSpans {
		t.Error("Len of many")
	}
}

// TestQuestionsOfNone (P2.3): false and 0 of a list that may not be, whatever is asked.
func TestQuestionsOfNone(t *testing.T) {
	for name, l := range mayNot() {
		for _, n := range []uint64{0, 1, 2, 3, 4, 5, 6, 7, 100, final - 1, final} {
			if Has(l, n) {
				t.Errorf("%s: it has %d", name, n)
			}
			if got := Gap(l, n); got != 0 {
				t.Errorf("%s: the gap from %d on is %d", name, n, got)
			}
			if Covers(l, api.Span{From: n, To: n}) || Covers(l, api.Span{From: 1, To: n}) {
				t.Errorf("%s: it covers up to %d", name, n)
			}
		}
		if Len(l) != 0 {
			t.Errorf("%s: its length is %d", name, Len(l))
		}
	}
}

// orders hands over l in each order.
func orders(l []api.Span, do func([]api.Span)) {
	if len(l) < 2 {
		do(l)
		return
	}
	for i, first := range l {
		rest := slices.Delete(slices.Clone(l), i, i+1)
		orders(rest, func(r []api.Span) { do(append([]api.Span{first}, r...)) })
	}
}

// TestOrderOfAdding (P2.4): it makes no difference; what was added is there then, and nothing else.
func TestOrderOfAdding(t *testing.T) {
	for _, x := range []struct{ added, want []api.Span }{
		{row(2, 4, 4, 6, 6, 8, 10, 12, 11, 11), row(2, 8, 10, 12)},
		{row(1, 9, 2, 3, 5, 12, 20, 21, 12, 13), row(1, 13, 20, 21)},
		{row(0, 1, 2, 3, 4, 5, 6, 7, 1, 6), row(0, 7)},
		{row(final-1, final, 0, 1, 5, 5, 1, 3, final-9, final-1), row(0, 3, final-9, final)},
	} {
		orders(x.added, func(o []api.Span) {
			var l []api.Span
			for _, s := range o {
				var e api.Errno
				if l, e = Add(l, s); e != api.OK || !May(l) || !Covers(l, s) {
					t.Fatalf("in the order %v, behind %v: %v, %v", o, s, l, e)
				}
			}
			if !slices.Equal(l, x.want) {
				t.Errorf("in the order %v: %v, not %v", o, l, x.want)
			}
		})
	}
}

// TestAddedAndCut (P2.4): over many turns what is added is there, what is cut is not, all else is as it was.
func TestAddedAndCut(t *testing.T) {
	const numbers = 400
	var there [numbers]bool
	var l []api.Span
	turn := uint32(1)
	next := func(n uint32) uint64 { // a row of numbers that jumps about, the same in each run
		turn = turn*1664525 + 1013904223
		return uint64((turn >> 8) % n)
	}
	for range 3000 {
		from := next(numbers)
		x := api.Span{From: from, To: min(from+next(20), numbers)}
		add := next(2) == 0
		do := Cut
		if add {
			do = Add
		}
		var e api.Errno
		if l, e = do(l, x); e != api.OK || !May(l) {
			t.Fatalf("%v: %v, %v", x, l, e)
		}
		for n := x.From; n < x.To; n++ {
			there[n] = add
		}
		for n, want := range there {
			if Has(l, uint64(n)) != want {
				t.Fatalf("behind %v (added: %t) it is not %t that %d is there", x, add, want, n)
			}
		}
	}
}

// TestNewMemory: an answer shares nothing with the list handed in, which stays as it was, also where it has room behind it.
func TestNewMemory(t *testing.T) {
	for _, x := range []api.Span{{}, {From: 5, To: 5}, {From: 7, To: 7}, {From: 0, To: 1}, {From: 4, To: 6}, {From: 7, To: 8}, {From: 20, To: 30}} {
		for _, do := range []func([]api.Span, api.Span) ([]api.Span, api.Errno){Add, Cut} {
			whole := row(2, 4, 6, 9, 100, 101, 102, 103)
			was := slices.Clone(whole)
			got, e := do(whole[:2], x)
			for i := range got {
				got[i] = api.Span{From: 777, To: 778}
			}
			if e != api.OK || !slices.Equal(whole, was) {
				t.Errorf("%v: the list handed in became %v (%v)", x, whole, e)
			}
		}
	}
}

// TestJoinedOfAnything: what sorts and joins goes by how elements begin and join, of whatever kind they are.
func TestJoinedOfAnything(t *testing.T) {
	begin := func(w string) string { return w[:1] }
	join := func(ahead, next string) (string, bool) { return ahead + next[1:], ahead[0] == next[0] }
	got := joined([]string{"cx", "ay", "cz", "b", "aw"}, begin, join)
	for i, want := range []struct {
		first string
		size  int
	}{{"a", 3}, {"b", 1}, {"c", 3}} {
		if len(got) != 3 || got[i][:1] != want.first || len(got[i]) != want.size {
			t.Fatalf("joined texts: %v", got)
		}
	}
	type point struct{ at, width int8 }
	merge := func(a, b point) (point, bool) {
		return point{a.at, max(a.width, b.at-a.at+b.width)}, b.at <= a.at+a.width
	}
	points := joined([]point{{5, 1}, {-9, 2}, {-7, 1}, {0, 3}, {1, 1}}, func(p point) int8 { return p.at }, merge)
	if !slices.Equal(points, []point{{-9, 3}, {0, 3}, {5, 1}}) {
		t.Errorf("joined points: %v", points)
	}
}
