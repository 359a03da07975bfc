package sum

import (
	"slices"
	"strings"
	"testing"
)

// edges are words at the ends, at the middle, and a few between.
var edges = []uint16{0, 1, 2, 0xff, 0x100, 0x1234, 0x5555, 0x7fff, 0x8000, 0xaaaa, 0xfeff, 0xff00, 0xfffe, 0xffff}

// whole is the chapter's text.
const whole = "\x00\x01\xf2\x03\xf4\xf5\xf6\xf7"

// text lays words two bytes each, the high one first.
func text(words ...uint16) string {
	var b []byte
	for _, w := range words {
		b = append(b, byte(w>>8), byte(w))
	}
	return string(b)
}

// added is the sum by ones' complement, told as the chapter tells it.
func added(words ...int) int {
	sum := 0
	for _, w := range words {
		sum += w
	}
	for sum > 65535 {
		sum = sum%65536 + sum/65536
	}
	return sum
}

// model is the checksum of s: byte by byte, each at its place.
func model(s string) uint16 {
	var words []int
	for i := range len(s) {
		if i%2 == 0 {
			words = append(words, int(s[i])*256)
		} else {
			words[i/2] += int(s[i])
		}
	}
	return uint16(65535 - added(words...))
}

// some is a text of n bytes that jump about, the same in each run.
func some(n int, seed uint32) string {
	var b []byte
	for range n {
		seed = seed*1664525 + 1013904223
		b = append(b, byte(seed>>16))
	}
	return string(b)
}

// cuts hands over s cut into parts in each way.
func cuts(s string, do func(parts []string)) {
	for where := range 1 << (len(s) - 1) {
		var parts []string
		from := 0
		for i := 1; i < len(s); i++ {
			if where>>(i-1)&1 == 1 {
				parts = append(parts, s[from:i])
				from = i
			}
		}
		do(append(parts, s[from:]))
	}
}

// TestExamples: those of the chapter.
func TestExamples(t *testing.T) {
	if got := Of(whole); got != 0x220d {
		t.Errorf("Of of eight bytes is %04x", got)
	}
	if a, b := Of(), Of("\x01"); a != 0xffff || b != 0xfeff {
		t.Errorf("Of of none is %04x, of 01 it is %04x", a, b)
	}
	if got := Turn(0xdd2f, 0x5555, 0x3285); got != 0 {
		t.Errorf("Turn is %04x", got)
	}
}

// TestOf (P3.1): no part, empty ones, odd lengths, words 0 and 65,535, sums that are above 65,535 again.
func TestOf(t *testing.T) {
	for _, x := range []struct {
		parts []string
		want  uint16
	}{
		{nil, 0xffff},
		{[]string{""}, 0xffff},
		{[]string{"", "", ""}, 0xffff},
		{[]string{"\x00"}, 0xffff},
		{[]string{"\x00\x00"}, 0xffff},
		{[]string{"\x00", "\x00", "\x00"}, 0xffff},
		{[]string{"\x01"}, 0xfeff},
		{[]string{"\x00\x01"}, 0xfffe},
		{[]string{"\x01\x02"}, 0xfefd},
		{[]string{"\x01", "\x02"}, 0xfefd},
		{[]string{"", "\x01", "", "", "\x02", ""}, 0xfefd},
		{[]string{"\x01\x02\x03"}, 0xfbfd},
		{[]string{"\x01", "\x02\x03"}, 0xfbfd},
		{[]string{"\x01\x02", "\x03"}, 0xfbfd},
		{[]string{"\x01", "\x02", "\x03"}, 0xfbfd},
		{[]string{"\x01", "", "\x02\x03\x04", "\x05"}, 0xf6f9},
		{[]string{"\xff"}, 0x00ff},
		{[]string{"\xff\xff"}, 0},
		{[]string{"\xff\xff\xff\xff"}, 0},
		{[]string{"\xff\xff\x00\x01"}, 0xfffe},
		{[]string{"\xff\xff\xff\xff\x00\x01"}, 0xfffe}, // 1ffff, 10000, 1
		{[]string{"\x80\x00\x80\x00"}, 0xfffe},
		{[]string{"\xff\xff", "\xff", "\xff\x00", "\x01"}, 0xfffe},
		{[]string{"\x00\x01\xf2\x03\xf4\xf5\xf6\xf7"}, 0x220d},
		{[]string{"\x00\x01\xf2", "\x03\xf4\xf5\xf6\xf7"}, 0x220d},
	} {
		if got := Of(x.parts...); got != x.want {
			t.Errorf("Of(%x) is %04x, not %04x", x.parts, got, x.want)
		}
	}
}

// TestOfWords (P3.1): each text of one word, and of one byte.
func TestOfWords(t *testing.T) {
	for w := range 65536 {
		if got := Of(text(uint16(w))); got != uint16(65535-w) {
			t.Fatalf("Of of the word %04x is %04x", w, got)
		}
	}
	for b := range 256 {
		if got := Of(string([]byte{byte(b)})); got != uint16(65535-256*b) {
			t.Fatalf("Of of the byte %02x is %04x", b, got)
		}
	}
}

// TestOfParts (P3.1): the cuts make no difference, nor empty parts between them.
func TestOfParts(t *testing.T) {
	for _, s := range []string{whole, some(9, 1), some(10, 7), "\xff\xff\xff\xff\xff\xff\xff\xff\xff", "\xff\xfe\xfd\xfc\xfb"} {
		want := model(s)
		cuts(s, func(parts []string) {
			was := slices.Clone(parts)
			if got := Of(parts...); got != want {
				t.Errorf("Of(%x) is %04x, not %04x", parts, got, want)
			}
			if !slices.Equal(parts, was) {
				t.Errorf("the parts %x became %x", was, parts)
			}
			spread := []string{""}
			for _, p := range parts {
				spread = append(spread, p, "")
			}
			if got := Of(spread...); got != want {
				t.Errorf("Of(%x) is %04x, not %04x", spread, got, want)
			}
		})
	}
}

// TestOfLengths (P3.1): texts of each length up to some hundred bytes, and long ones, whose sums are above 2^32.
func TestOfLengths(t *testing.T) {
	for n := range 300 {
		if s := some(n, uint32(n)); Of(s) != model(s) || Of(s[:n/3], s[n/3:]) != model(s) {
			t.Errorf("Of(%x) is %04x, not %04x", s, Of(s), model(s))
		}
	}
	for _, x := range []struct {
		s    string
		want uint16
	}{
		{strings.Repeat("\xff", 300000), 0},
		{strings.Repeat("\xff", 300001), 0x00ff},
		{strings.Repeat("\xff", 300000) + "\x00\x01", 0xfffe},
		{strings.Repeat("\xff\xfe", 150000), uint16(150000 % 65535)},
		{strings.Repeat("\x00", 300000), 0xffff},
	} {
		if got := Of(x.s, ""); got != x.want || got != model(x.s) {
			t.Errorf("Of of %d bytes is %04x, not %04x", len(x.s), got, x.want)
		}
	}
	if s := some(1000001, 3); Of(s) != model(s) || Of(s[:77777], s[77777:]) != model(s) {
		t.Errorf("Of of a million bytes and one is %04x, not %04x", Of(s), model(s))
	}
}

// TestRight (P3.1): a text that bears its checksum is right, in whatever parts; nothing is not.
func TestRight(t *testing.T) {
	for _, x := range []struct {
		parts []string
		want  bool
	}{
		{nil, false},
		{[]string{""}, false},
		{[]string{"\x00\x00"}, false},
		{[]string{"\xff\xff"}, true},
		{[]string{"\xff", "\xff"}, true},
		{[]string{"\xff\xff\xff\xff"}, true},
		{[]string{"\xff\xff\x00"}, true},
		{[]string{"\xff\xfe"}, false},
		{[]string{"\xff\xfe", "\x00\x01"}, true},
		{[]string{"\x01\x00\x00\x00"}, false},
		{[]string{whole}, false},
		{[]string{whole, "\x22\x0d"}, true},
		{[]string{"\x22\x0d", whole}, true},
		{[]string{whole[:3], whole[3:], "\x22", "\x0d"}, true},
		{[]string{whole, "\x0d\x22"}, false},
		{[]string{whole, "\x22\x0c"}, false},
	} {
		if got := Right(x.parts...); got != x.want {
			t.Errorf("Right(%x) is %t", x.parts, got)
		}
	}
}

// TestRightOfBorne (P3.1): a text with its checksum where a word 0 was is right; with one bit turned it is not.
func TestRightOfBorne(t *testing.T) {
	for n := range 24 {
		for at := 0; at < n; at += 2 {
			ahead, behind := some(at, 5), some(n-at, uint32(n))
			b := []byte(ahead + text(Of(ahead, "\x00\x00", behind)) + behind)
			if !Right(string(b)) {
				t.Errorf("%x is not right", b)
			}
			for bit := range 8 * len(b) {
				b[bit/8] ^= 1 << (bit % 8)
				if Right(string(b)) {
					t.Errorf("%x is right", b)
				}
				b[bit/8] ^= 1 << (bit % 8)
			}
		}
	}
}

// TestJoin (P3.2): each of the edges with each, and with all words; the sums 0 and 65,535.
func TestJoin(t *testing.T) {
	for _, x := range []struct{ a, b, want uint16 }{
		{0xffff, 0xffff, 0xffff},
		{0, 0, 0},
		{0, 0xffff, 0},
		{0xffff, 0, 0},
		{0xffff, 0x1234, 0x1234},
		{0x1234, 0xffff, 0x1234},
		{0xfffe, 0xfffe, 0xfffd},
		{0xfffe, 0, 0xfffe},
		{1, 0xfffe, 0},
		{0x8000, 0x7fff, 0},
		{0x7fff, 0x7fff, 0xfffe},
	} {
		if got := Join(x.a, x.b); got != x.want {
			t.Errorf("Join(%04x, %04x) is %04x, not %04x", x.a, x.b, got, x.want)
		}
	}
	for _, a := range edges {
		for b := range 65536 {
			want := uint16(65535 - added(65535-int(a), 65535-b))
			if got := Join(a, uint16(b)); got != want || Join(uint16(b), a) != want {
				t.Fatalf("Join(%04x, %04x) is %04x, not %04x", a, b, got, want)
			}
		}
	}
}

// TestJoinOfTexts (P3.2): the first one has an even number of bytes, the other one any; either may be empty.
func TestJoinOfTexts(t *testing.T) {
	for _, s := range []string{whole, some(40, 2), some(41, 2), "\x01", "", strings.Repeat("\xff", 17), strings.Repeat("\x00", 9)} {
		for i := 0; i <= len(s); i += 2 {
			if got := Join(Of(s[:i]), Of(s[i:])); got != Of(s) {
				t.Errorf("%x, cut at %d: %04x, not %04x", s, i, got, Of(s))
			}
		}
	}
}

// TestTurn (P3.3): the edges, a word that stays, and sums above 65,535 more than once.
func TestTurn(t *testing.T) {
	for _, x := range []struct{ sum, was, now, want uint16 }{
		{0xdd2f, 0x5555, 0x3285, 0},
		{0, 0, 0, 0},
		{0xffff, 0, 0, 0}, // the sum is 65,535, not 0: the checksum does not come back
		{0xffff, 0xffff, 0, 0xffff},
		{0xffff, 0xffff, 0xffff, 0},
		{0xffff, 0x1234, 0x1234, 0},
		{0, 0, 1, 0xfffe}, // 1ffff, 10000, 1
		{0, 0, 0xffff, 0},
		{0, 0xffff, 0, 0},
		{0, 0xffff, 0xffff, 0},
		{0xfffe, 0, 0, 0xfffe},
		{0xfffe, 1, 0, 0},
		{0x1234, 0x5678, 0x5678, 0x1234},
		{0x220d, 1, 2, 0x220c},
		{0x220d, 2, 1, 0x220e},
	} {
		if got := Turn(x.sum, x.was, x.now); got != x.want {
			t.Errorf("Turn(%04x, %04x, %04x) is %04x, not %04x", x.sum, x.was, x.now, got, x.want)
		}
	}
	for _, a := range edges {
		for _, b := range edges {
			for x := range 65536 {
				for _, w := range [][3]uint16{{a, b, uint16(x)}, {a, uint16(x), b}, {uint16(x), a, b}} {
					want := uint16(65535 - added(65535-int(w[0]), 65535-int(w[1]), int(w[2])))
					if got := Turn(w[0], w[1], w[2]); got != want {
						t.Fatalf("Turn(%04x) is %04x, not %04x", w, got, want)
					}
				}
			}
		}
	}
}

// TestTurns (P3.3): texts of the same length and of others, odd ones, empty ones.
func TestTurns(t *testing.T) {
	for _, x := range []struct {
		sum      uint16
		was, now string
		want     uint16
	}{
		{0xffff, "", "", 0xffff}, // no word, no turn
		{0xffff, "", "\x12\x34", 0xffff},
		{0x1234, "\x12\x34", "", 0x1234},
		{0xffff, "\x00", "\x00", 0},
		{0xffff, "\x12\x34", "\x12\x34", 0},
		{0x220d, "\x00\x01", "\x00\x02", 0x220c},
		{0x220d, "\x00\x01\x77\x77", "\x00\x02", 0x220c},
		{0x220d, "\x00\x01", "\x00\x02\x77\x77", 0x220c},
		{0x220d, "\x00\x01", "\x01", 0x210d},             // 0000 is 0100
		{0x220d, "\x00", "\x01\x01", 0x210d},             // and so here
		{0x220d, "\x00\x01\xf2", "\x01\x01\xf3", 0x200d}, // 0001 f200 are 0101 f300
		{0x220d, "\x00\x01\xf2\x03", "\x01\x01\xf3", 0x200d},
		{0x220d, "\x00\x01\xf2", "\x01\x01\xf3more", 0x200d},
	} {
		if got := Turns(x.sum, x.was, x.now); got != x.want {
			t.Errorf("Turns(%04x, %x, %x) is %04x, not %04x", x.sum, x.was, x.now, got, x.want)
		}
	}
}

// TestTurnsOfTexts (P3.3): two texts of all lengths up to nine, turned word by word of what both have.
func TestTurnsOfTexts(t *testing.T) {
	for _, sum := range edges {
		for n := range 10 {
			for m := range 10 {
				was, now := some(n, 11), some(m, 12)
				both := min(n, m)
				a, b := was[:both], now[:both]
				if both%2 == 1 {
					a, b = a+"\x00", b+"\x00"
				}
				want := sum
				for i := 0; i < len(a); i += 2 {
					want = Turn(want, uint16(a[i])<<8+uint16(a[i+1]), uint16(b[i])<<8+uint16(b[i+1]))
				}
				if got := Turns(sum, was, now); got != want {
					t.Errorf("Turns(%04x, %x, %x) is %04x, not %04x", sum, was, now, got, want)
				}
			}
		}
	}
}

// TestOtherWord (P3.4): another word makes another checksum; 0 and 65,535 alone may be one.
func TestOtherWord(t *testing.T) {
	for _, rest := range []string{"\x00\x07", "\xff\xff", "\x12\x34\x56", "\x00\x00\x00\x01"} {
		of := map[uint16]int{}
		for w := range 65535 { // all but 65,535
			sum := Of(text(uint16(w)), rest)
			if other, ok := of[sum]; ok {
				t.Fatalf("with %x behind them, %04x and %04x have the checksum %04x", rest, other, w, sum)
			}
			of[sum] = w
		}
		if Of("\xff\xff", rest) != Of("\x00\x00", rest) {
			t.Errorf("with %x behind them, 0 and 65,535 have not one checksum", rest)
		}
	}
	if Of("\x00\x00", "\x00\x00") == Of("\xff\xff", "\x00\x00") {
		t.Error("0 and 65,535 have one checksum where all else is 0")
	}
}

// TestTurnedAlong (P3.4): as long as another word is neither 0 nor 65,535, what is turned is the text's own.
func TestTurnedAlong(t *testing.T) {
	for _, rest := range []string{"\x00\x01", "\xff\xfe", "\x12\x34\x56", "\x00\x00\x00\x07\xff\xff", "\x01"} {
		for _, was := range edges {
			sum := Of(text(was), rest)
			for now := range 65536 {
				if got, want := Turn(sum, was, uint16(now)), Of(text(uint16(now)), rest); got != want {
					t.Fatalf("%04x ahead of %x is %04x: %04x, not %04x", was, rest, now, got, want)
				}
			}
		}
	}
	// where all other words are 0, it need not be
	if Turn(Of("\x00\x05"), 5, 0) != 0 || Of("\x00\x00") != 0xffff {
		t.Error("a text whose words all become 0")
	}
}

// TestTurnedAlongFar (P3.4): over many turns, of one word and of many, in the middle of a text.
func TestTurnedAlongFar(t *testing.T) {
	s := some(60, 9)
	sum := Of(s)
	for i := range 2000 {
		at, now := i%25*2, some(i%10, uint32(i))
		if i%7 == 0 {
			now = strings.Repeat("\xff", i%10)
		}
		if i%11 == 0 {
			now = strings.Repeat("\x00", i%10)
		}
		next := s[:at] + now + s[at+len(now):]
		sum = Turns(sum, s[at:at+len(now)], now)
		s = next
		if sum != Of(s) {
			t.Fatalf("behind turn %d it is %04x, not %04x", i, sum, Of(s))
		}
	}
}

// TestLeftEarly: whoever ranges over words or pairs may leave at each of them.
func TestLeftEarly(t *testing.T) {
	all := []uint16{0x6162, 0x6364, 0x6566, 0x6700}
	for n := range len(all) {
		var got []uint16
		for w := range words("a", "", "bc", "def", "g") {
			if got = append(got, w); len(got) > n {
				break
			}
		}
		if !slices.Equal(got, all[:n+1]) {
			t.Errorf("the first words are %04x", got)
		}
		got = nil
		for a, b := range pairs("abcdefg", "abcdefgh") {
			if a != b {
				t.Errorf("the pair %04x %04x", a, b)
			}
			if got = append(got, a); len(got) > n {
				break
			}
		}
		if !slices.Equal(got, all[:n+1]) {
			t.Errorf("the first pairs are %04x", got)
		}
	}
}
