package tuple

import (
	"fmt"
	"math/big"
	"regexp"
	"slices"
	"strings"
	"testing"

	"transom/api"
)

// ips and ports are numbers at the ends, and those that part in one of their bytes.
var (
	ips   = []uint32{0, 1, 0xff, 0x100, 0xffff, 0x10000, 0xffffff, 0x1000000, 0x01020304, 0x0a000001, 0x7fffffff, 0x80000000, 0xfffffffe, 0xffffffff}
	ports = []uint16{0, 1, 9, 10, 80, 0xff, 0x100, 0x0102, 0x7fff, 0x8000, 0xfffe, 0xffff}
)

// form is the form of an address's text, but for how great its numbers are.
var form = regexp.MustCompile(`\A(0|[1-9][0-9]*)\.(0|[1-9][0-9]*)\.(0|[1-9][0-9]*)\.(0|[1-9][0-9]*):(0|[1-9][0-9]*)\z`)

// addresses has each of ips with each of ports.
func addresses() []api.Addr {
	var l []api.Addr
	for _, ip := range ips {
		for _, port := range ports {
			l = append(l, api.Addr{IP: ip, Port: port})
		}
	}
	return l
}

// bytesOf are the bytes of a, told as the chapter tells them.
func bytesOf(a api.Addr) string {
	n := uint64(a.IP)*65536 + uint64(a.Port)
	b := make([]byte, 6)
	for i := 5; i >= 0; i-- {
		b[i] = byte(n % 256)
		n /= 256
	}
	return string(b)
}

// textOf is the text of a, told as the chapter tells it.
func textOf(a api.Addr) string {
	b := bytesOf(a)
	return fmt.Sprintf("%d.%d.%d.%d:%d", b[0], b[1], b[2], b[3], a.Port)
}

// parsed is what Parse is to answer, told by the form and by numbers that have no bound.
func parsed(s string) (api.Addr, api.Errno) {
	m := form.FindStringSubmatch(s)
	if m == nil {
		return api.Addr{}, api.ErrForm
	}
	var n [5]uint64
	for i, most := range []int64{255, 255, 255, 255, 65535} {
		x, ok := new(big.Int).SetString(m[i+1], 10)
		if !ok || x.Cmp(big.NewInt(most)) > 0 {
			return api.Addr{}, api.ErrForm
		}
		n[i] = x.Uint64()
	}
	return api.Addr{IP: uint32(n[0]<<24 + n[1]<<16 + n[2]<<8 + n[3]), Port: uint16(n[4])}, api.OK
}

// pair is the pair of these numbers.
func pair(fromIP uint32, fromPort uint16, toIP uint32, toPort uint16) api.Pair {
	return api.Pair{From: api.Addr{IP: fromIP, Port: fromPort}, To: api.Addr{IP: toIP, Port: toPort}}
}

// refused tells that s is no address, to read and what it is called.
func refused(t *testing.T, name string, read func(string) (api.Addr, api.Errno), s string) {
	t.Helper()
	if a, e := read(s); a != (api.Addr{}) || e != api.ErrForm {
		t.Errorf("%s(%.40q) is %v, %v", name, s, a, e)
	}
}

// row is an address, and what is written of it.
type row struct {
	a       api.Addr
	written string
}

// held holds write and read against each other, and against rows.
func held(t *testing.T, write func(api.Addr) string, read func(string) (api.Addr, api.Errno), rows []row) {
	t.Helper()
	for _, x := range rows {
		if got := write(x.a); got != x.written {
			t.Errorf("%v is written %q, not %q", x.a, got, x.written)
		}
		if got, e := read(x.written); got != x.a || e != api.OK {
			t.Errorf("%q is read as %v, %v", x.written, got, e)
		}
	}
}

// TestExamples: those of the chapter.
func TestExamples(t *testing.T) {
	if got := Text(api.Addr{IP: 10<<24 + 1, Port: 80}); got != "10.0.0.1:80" {
		t.Errorf("Text is %q", got)
	}
	for _, s := range []string{"10.0.0.01:80", "10.0.0.256:80", "10.0.0.1"} {
		refused(t, "Parse", Parse, s)
	}
}

// TestTurned (P4.1): From and To change places, each with its port; twice turned is as it was.
func TestTurned(t *testing.T) {
	for _, p := range []api.Pair{{}, pair(1, 2, 3, 4), pair(1, 2, 1, 2), pair(1<<32-1, 65535, 0, 0), pair(0, 65535, 1<<32-1, 0)} {
		was := p
		want := pair(p.To.IP, p.To.Port, p.From.IP, p.From.Port)
		if got := Turned(p); got != want {
			t.Errorf("Turned(%v) is %v", p, got)
		}
		if Turned(Turned(p)) != p || p != was {
			t.Errorf("%v, twice turned, is %v", was, Turned(Turned(p)))
		}
	}
}

// TestCompare (P4.1): what stands ahead decides, whatever stands behind it.
func TestCompare(t *testing.T) {
	const top, last = 1<<32 - 1, 1<<16 - 1
	for _, x := range []struct {
		less, more api.Pair
	}{
		{pair(0, 0, 0, 0), pair(0, 0, 0, 1)},
		{pair(5, 6, 7, 8), pair(5, 6, 7, 9)}, // they part only in the last
		{pair(top, last, top, last-1), pair(top, last, top, last)},
		{pair(5, 6, 7, 0), pair(5, 6, 7, last)},
		{pair(5, 6, 7, 255), pair(5, 6, 7, 256)},
		{pair(5, 6, 7, last), pair(5, 6, 8, 0)},
		{pair(5, 6, 0, last), pair(5, 6, top, 0)},
		{pair(5, 6, 255, 9), pair(5, 6, 256, 8)},
		{pair(5, 6, 0x7fffffff, 8), pair(5, 6, 0x80000000, 8)},
		{pair(5, 6, top, last), pair(5, 7, 0, 0)},
		{pair(5, 0, top, last), pair(5, last, 0, 0)},
		{pair(5, 0x7fff, 7, 8), pair(5, 0x8000, 7, 8)},
		{pair(5, last, top, last), pair(6, 0, 0, 0)},
		{pair(0, last, top, last), pair(top, 0, 0, 0)},
		{pair(0x7fffffff, 6, 7, 8), pair(0x80000000, 6, 7, 8)},
	} {
		if got := Compare(x.less, x.more); got != -1 {
			t.Errorf("Compare(%v, %v) is %d", x.less, x.more, got)
		}
		if got := Compare(x.more, x.less); got != 1 {
			t.Errorf("Compare(%v, %v) is %d", x.more, x.less, got)
		}
		if a, b := Compare(x.less, x.less), Compare(x.more, x.more); a != 0 || b != 0 {
			t.Errorf("%v and %v stand to themselves as %d and %d", x.less, x.more, a, b)
		}
	}
}

// TestCompareBytes (P4.3): any two pairs stand as the bytes of From and of To, one behind the other.
func TestCompareBytes(t *testing.T) {
	var pairs []api.Pair
	for _, fromIP := range []uint32{0, 1, 255, 256, 1<<32 - 1} {
		for _, fromPort := range []uint16{0, 255, 256, 65535} {
			for _, toIP := range []uint32{0, 65535, 65536, 1 << 31, 1<<32 - 1} {
				for _, toPort := range []uint16{0, 1, 256, 65535} {
					pairs = append(pairs, pair(fromIP, fromPort, toIP, toPort))
				}
			}
		}
	}
	for _, a := range pairs {
		for _, b := range pairs {
			want := strings.Compare(Bytes(a.From)+Bytes(a.To), Bytes(b.From)+Bytes(b.To))
			if got := Compare(a, b); got != want {
				t.Fatalf("Compare(%v, %v) is %d, not %d", a, b, got, want)
			}
			if got := Compare(a, b) == 0; got != (a == b) {
				t.Fatalf("%v and %v are the same: %v", a, b, got)
			}
		}
	}
	slices.Reverse(pairs)
	slices.SortFunc(pairs, Compare)
	if !slices.IsSortedFunc(pairs, Compare) || pairs[0] != (api.Pair{}) {
		t.Error("pairs can't be sorted by Compare")
	}
}

// TestBytes (P4.2): four bytes, the highest first, and the port's two, the high one first.
func TestBytes(t *testing.T) {
	held(t, Bytes, Read, []row{
		{api.Addr{}, "\x00\x00\x00\x00\x00\x00"},
		{api.Addr{IP: 0x01020304, Port: 0x0506}, "\x01\x02\x03\x04\x05\x06"},
		{api.Addr{IP: 0x0a000001, Port: 80}, "\x0a\x00\x00\x01\x00\x50"},
		{api.Addr{IP: 255, Port: 255}, "\x00\x00\x00\xff\x00\xff"},
		{api.Addr{IP: 256, Port: 256}, "\x00\x00\x01\x00\x01\x00"},
		{api.Addr{IP: 1<<32 - 1}, "\xff\xff\xff\xff\x00\x00"},
		{api.Addr{Port: 65535}, "\x00\x00\x00\x00\xff\xff"},
		{api.Addr{IP: 1<<32 - 1, Port: 65535}, "\xff\xff\xff\xff\xff\xff"},
	})
}

// TestReadLengths (P4.2): six bytes are an address, whatever they are; fewer and more are none.
func TestReadLengths(t *testing.T) {
	for n := range 20 {
		for _, c := range []string{"\x00", "\x01", "0", "\xff"} {
			s := strings.Repeat(c, n)
			if n != 6 {
				refused(t, "Read", Read, s)
			} else if a, e := Read(s); e != api.OK || Bytes(a) != s {
				t.Errorf("Read(%x) is %v, %v", s, a, e)
			}
		}
	}
	refused(t, "Read", Read, "10.0.0.1:80")
	refused(t, "Read", Read, strings.Repeat("\x01\x02\x03\x04\x05\x06", 1000))
}

// TestText (P4.2): each number in as many digits as it has, between its signs.
func TestText(t *testing.T) {
	held(t, Text, Parse, []row{
		{api.Addr{}, "0.0.0.0:0"},
		{api.Addr{IP: 0x01020304, Port: 5}, "1.2.3.4:5"},
		{api.Addr{IP: 0x090a6364, Port: 10}, "9.10.99.100:10"},
		{api.Addr{IP: 0xff00ff00, Port: 9999}, "255.0.255.0:9999"},
		{api.Addr{IP: 256, Port: 256}, "0.0.1.0:256"},
		{api.Addr{IP: 0x80000000, Port: 32768}, "128.0.0.0:32768"},
		{api.Addr{IP: 1<<32 - 1, Port: 65535}, "255.255.255.255:65535"},
	})
}

// TestParseNumbers (P4.2): each number from 0 to 255 at each place, the port from 0 to 65,535; none above, none with a nought ahead.
func TestParseNumbers(t *testing.T) {
	for place := range 4 {
		for n := range 1100 {
			numbers := []any{1, 2, 3, 4, 5}
			numbers[place] = n
			s := fmt.Sprintf("%d.%d.%d.%d:%d", numbers...)
			if n > 255 {
				refused(t, "Parse", Parse, s)
				continue
			}
			low := 24 - 8*place
			want := api.Addr{IP: 0x01020304&^(0xff<<low) | uint32(n)<<low, Port: 5}
			if a, e := Parse(s); a != want || e != api.OK {
				t.Errorf("Parse(%q) is %v, %v", s, a, e)
			}
		}
	}
	for n := range 70000 {
		s := fmt.Sprintf("1.2.3.4:%d", n)
		if n > 65535 {
			refused(t, "Parse", Parse, s)
		} else if a, e := Parse(s); a != (api.Addr{IP: 0x01020304, Port: uint16(n)}) || e != api.OK {
			t.Errorf("Parse(%q) is %v, %v", s, a, e)
		}
		if n < 1000 {
			refused(t, "Parse", Parse, fmt.Sprintf("1.2.3.4:0%d", n))
			refused(t, "Parse", Parse, fmt.Sprintf("1.2.3.0%d:4", n))
			refused(t, "Parse", Parse, fmt.Sprintf("00%d.1.2.3:4", n))
		}
	}
}

// TestParseWrong (P4.2): what is no address's text.
func TestParseWrong(t *testing.T) {
	for _, s := range []string{
		"", ".", ":", "...:", "....:", "1", "1:2", "1.2:3", "1.2.3:4", "1.2.3.4", "1.2.3.4.5", "1.2.3.4.5:6", "1.2.3.4.5.6:7", "1.2.3.4.:5", ".1.2.3.4:5",
		".2.3.4:5", "1..3.4:5", "1.2..4:5", "1.2.3.:5", "1.2.3.4:", "1.2..3.4:5", "1.2.3.4::5", "1.2.3.4:5:", "1.2.3.4:5:6", ":1.2.3.4:5", "1:2.3.4.5", "1.2.3:4:5", "1:2:3:4:5",
		"00.0.0.0:0", "0.00.0.0:0", "0.0.00.0:0", "0.0.0.00:0", "0.0.0.0:00", "01.2.3.4:5", "1.02.3.4:5", "1.2.03.4:5", "1.2.3.04:5", "1.2.3.4:05", "1.2.3.4:080", "000.0.0.0:0",
		"256.2.3.4:5", "1.256.3.4:5", "1.2.256.4:5", "1.2.3.256:5", "1.2.3.4:65536", "999.2.3.4:5", "1000.2.3.4:5", "1.2.3.4:99999", "1.2.3.4:100000", "1.2.3.257:5", "1.2.3.4:65616",
		"1.2.3.4294967296:5", "1.2.3.4294967300:5", "1.2.3.18446744073709551616:5", "1.2.3.18446744073709551620:5", "1.2.3.4:4294967301", "1.2.3.4:18446744073709551621",
		"+1.2.3.4:5", "-1.2.3.4:5", "1.2.3.-4:5", "1.2.3.-0:5", "1.2.3.4:+5", "1.2.3.4:-5", "1.2.3.4:-0",
		" 1.2.3.4:5", "1.2.3.4:5 ", "1.2.3.4 :5", "1.2.3.4: 5", "1. 2.3.4:5", "1 .2.3.4:5", "1.2.3.4:5\n", "\t1.2.3.4:5", "1.2.3.4:5\x00", "\x001.2.3.4:5",
		"1,2,3,4:5", "1.2.3.4;5", "1.2.3.4/5", "1-2-3-4:5", "[1.2.3.4]:5", "1.2.3.4:http", "a.b.c.d:e", "0x1.2.3.4:5", "1.2.3.0xa:5", "1.2.3.a:5", "1.2.3.4:0x5", "1.2.3.1e1:5", "1.2.3.1_0:5", "1.2.3.4:1_0", "1_0.2.3.4:5", "0b1.2.3.4:5", "0o1.2.3.4:5",
		"1.2.3.\u0664:5", "1.2.3.\uff14:5", "1.2.3.4\uff1a5", "1\u30022\u30023\u30024:5", "\xff\xff\xff\xff\xff\xff", "\x01\x02\x03\x04\x05\x06", "::1:80", "localhost:80",
		"1.2.3.4:51.2.3.4:5", "1.2.3.4:5,1.2.3.4:5", "255.255.255.255:655350", "1255.255.255.255:65535",
	} {
		refused(t, "Parse", Parse, s)
	}
}

// TestParseLong (P4.2): texts that are too long, of numbers, of noughts, of signs.
func TestParseLong(t *testing.T) {
	for _, part := range []string{"0", "1", "9", ".", ":", " ", "1.", ".1", ":1", "1:", "1.2.3.4:5", "1.2.3."} {
		long := strings.Repeat(part, 100000)
		for _, s := range []string{long, long + "1.2.3.4:5", "1.2.3.4:5" + long, "1.2.3." + long + ":5", "1.2.3.4" + long + ":5", "1.2.3.4:" + long + "5"} {
			refused(t, "Parse", Parse, s)
		}
	}
}

// TestParseEdits (P4.2): texts that part from an address's in one byte, or in two numbers' edges, are read just if they are one's too.
func TestParseEdits(t *testing.T) {
	const signs = "0123456789.:+-_ xa,;/\x00\n\xff"
	check := func(s string) {
		t.Helper()
		want, why := parsed(s)
		if a, e := Parse(s); a != want || e != why {
			t.Errorf("Parse(%q) is %v, %v, not %v, %v", s, a, e, want, why)
		}
	}
	for _, s := range []string{"0.0.0.0:0", "1.2.3.4:5", "10.0.0.1:80", "25.100.249.250:6553", "255.255.255.255:65535"} {
		check(s)
		for i := range len(s) + 1 {
			check(s[:i])
			check(s[i:])
			for _, c := range []byte(signs) {
				check(s[:i] + string([]byte{c}) + s[i:])
				if i < len(s) {
					check(s[:i] + string([]byte{c}) + s[i+1:])
				}
			}
			if i < len(s) {
				check(s[:i] + s[i+1:])
			}
		}
	}
	numbers := []string{"", "0", "00", "7", "07", "255", "256", "0255", "65535", "65536"}
	for _, a := range numbers {
		for _, b := range numbers {
			for _, c := range numbers {
				check(a + "." + b + ".3.4:" + c)
				check("1.2." + a + "." + b + ":" + c)
			}
		}
	}
}

// TestWrittenIsRead (P4.3): what was written is read, and is told as the chapter tells it; no two addresses are written the same.
func TestWrittenIsRead(t *testing.T) {
	all := addresses()
	for bit := range 48 {
		all = append(all, api.Addr{IP: uint32(1 << bit >> 16), Port: uint16(1<<bit) ^ 0x5555})
	}
	var texts, bytes []row
	whose := map[string]api.Addr{}
	for _, a := range all {
		texts = append(texts, row{a, textOf(a)})
		bytes = append(bytes, row{a, bytesOf(a)})
		for _, s := range []string{Text(a), Bytes(a)} {
			if b, ok := whose[s]; ok && a != b {
				t.Errorf("%v and %v both are written %q", a, b, s)
			}
			whose[s] = a
		}
	}
	held(t, Text, Parse, texts)
	held(t, Bytes, Read, bytes)
}

// TestNumbers: numbers of another size than an address has are told alike.
func TestNumbers(t *testing.T) {
	if n, ok := told[uint32]("4294967295"); n != 1<<32-1 || !ok {
		t.Errorf("told is %d, %v", n, ok)
	}
	if n, ok := told[uint32]("4294967296"); n != 0 || ok {
		t.Errorf("told is %d, %v", n, ok)
	}
}
