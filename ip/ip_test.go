package ip

import (
	"strings"
	"testing"
	"unsafe"

	"transom/api"
)

// example is the chapter's packet, and exampleHead its head.
const example = "\x45\x00\x00\x14\x00\x00\x00\x00\x40\x06\x66\xe2\x0a\x00\x00\x01\x0a\x00\x00\x02"

var exampleHead = api.IP{Src: 0x0a000001, Dst: 0x0a000002, Proto: 6, TTL: 64}

// jumping hands over numbers that jump about, the same in each run.
func jumping(from uint32) func() uint32 {
	half := func() uint32 {
		from = from*1664525 + 1013904223
		return from >> 16
	}
	return func() uint32 { return half()<<16 | half() }
}

// heads have the numbers' ends, numbers whose bytes all differ, each field alone, and some that jump about.
func heads() []api.IP {
	l := []api.IP{
		{},
		exampleHead,
		{Src: 1<<32 - 1, Dst: 1<<32 - 1, Proto: 255, TTL: 255, TOS: 255, ID: 65535, DF: true},
		{Src: 0x01020304, Dst: 0x05060708, Proto: 9, TTL: 10, TOS: 11, ID: 0x0c0d, DF: true},
		{Src: 0x80000000}, {Src: 1}, {Dst: 0x80000000}, {Dst: 1}, {Proto: 128}, {Proto: 1}, {TTL: 128}, {TTL: 1}, {TOS: 128}, {TOS: 1}, {ID: 0x8000}, {ID: 1}, {DF: true},
	}
	next := jumping(5)
	for range 50 {
		n := next()
		l = append(l, api.IP{Src: next(), Dst: next(), Proto: uint8(n), TTL: uint8(n >> 8), TOS: uint8(n >> 16), ID: uint16(next()), DF: n>>31 == 1})
	}
	return l
}

// loads are ordinary ones, none, and the longest there is.
func loads() []string {
	return []string{"", "a", "\x00", "load", strings.Repeat("\xff", 19), strings.Repeat("\x00", 20), strings.Repeat("z", 235), strings.Repeat("y", 236), example, example + example, strings.Repeat("load", 370), strings.Repeat("x", api.MaxPacket-api.IPHead-1), strings.Repeat("\xfe", api.MaxPacket-api.IPHead)}
}

// righted is s with the checksum of its first twenty bytes laid among them, told as layer 3 tells it.
func righted(s string) string {
	b := []byte(s)
	b[10], b[11] = 0, 0
	n := 0
	for i := range 20 {
		if i%2 == 0 {
			n += int(b[i]) * 256
		} else {
			n += int(b[i])
		}
	}
	for n > 65535 {
		n = n%65536 + n/65536
	}
	n = 65535 - n
	b[10], b[11] = byte(n/256), byte(n%256)
	return string(b)
}

// packet is the packet of h and load, told as the chapter tells it.
func packet(h api.IP, load string) string {
	n := 20 + len(load)
	df := 0
	if h.DF {
		df = 64
	}
	return righted(string([]byte{69, h.TOS, byte(n / 256), byte(n % 256), byte(h.ID / 256), byte(h.ID % 256), byte(df), 0, h.TTL, h.Proto, 0, 0,
		byte(h.Src / 16777216), byte(h.Src / 65536 % 256), byte(h.Src / 256 % 256), byte(h.Src % 256),
		byte(h.Dst / 16777216), byte(h.Dst / 65536 % 256), byte(h.Dst / 256 % 256), byte(h.Dst % 256)}) + load)
}

// with is s with other bytes from that place on.
func with(s string, place int, other ...byte) string {
	return s[:place] + string(other) + s[place+len(other):]
}

// told tells that s is told to be e, and nothing else of it.
func told(t *testing.T, s string, e api.Errno) {
	t.Helper()
	h, load, got := Decode(s)
	if got != e || h != (api.IP{}) || load != "" {
		t.Errorf("Decode(%.60x), of %d bytes, is %v, %d bytes, %v, not %v", s, len(s), h, len(load), got, e)
	}
}

// decoded tells that s is read as h and load.
func decoded(t *testing.T, s string, h api.IP, load string) {
	t.Helper()
	if g, l, e := Decode(s); g != h || l != load || e != api.OK {
		t.Errorf("Decode(%.60x), of %d bytes, is %v, %.40q, %v, not %v, %.40q", s, len(s), g, l, e, h, load)
	}
}

// TestExample: the chapter's.
func TestExample(t *testing.T) {
	if s, e := Encode(exampleHead, ""); s != example || e != api.OK {
		t.Errorf("it is %x, %v", s, e)
	}
	decoded(t, example, exampleHead, "")
}

// TestEncode (P5.1): packets that are written out.
func TestEncode(t *testing.T) {
	for _, x := range []struct {
		h    api.IP
		load string
		want string
	}{
		{api.IP{}, "", "\x45\x00\x00\x14\x00\x00\x00\x00\x00\x00\xba\xeb\x00\x00\x00\x00\x00\x00\x00\x00"},
		{api.IP{DF: true}, "", "\x45\x00\x00\x14\x00\x00\x40\x00\x00\x00\x7a\xeb\x00\x00\x00\x00\x00\x00\x00\x00"},
		{api.IP{Src: 0x01020304, Dst: 0x05060708, Proto: 9, TTL: 10, TOS: 11, ID: 0x0c0d}, "", "\x45\x0b\x00\x14\x0c\x0d\x00\x00\x0a\x09\x94\xb6\x01\x02\x03\x04\x05\x06\x07\x08"},
		{api.IP{Src: 0x01020304, Dst: 0x05060708, Proto: 9, TTL: 10, TOS: 11, ID: 0x0c0d, DF: true}, "load", "\x45\x0b\x00\x18\x0c\x0d\x40\x00\x0a\x09\x54\xb2\x01\x02\x03\x04\x05\x06\x07\x08load"},
		{api.IP{Src: 1<<32 - 1, Dst: 1<<32 - 1, Proto: 255, TTL: 255, TOS: 255, ID: 65535, DF: true}, "\x00", "\x45\xff\x00\x15\xff\xff\x40\x00\xff\xff\x79\xeb\xff\xff\xff\xff\xff\xff\xff\xff\x00"},
	} {
		if s, e := Encode(x.h, x.load); s != x.want || e != api.OK {
			t.Errorf("Encode(%v, %q) is %x, %v, not %x", x.h, x.load, s, e, x.want)
		}
	}
}

// TestEncodeAll (P5.1): each head with each load, the longest one too.
func TestEncodeAll(t *testing.T) {
	for _, h := range heads() {
		for _, load := range loads() {
			if s, e := Encode(h, load); s != packet(h, load) || e != api.OK {
				t.Errorf("Encode(%v, %.40q) is %.60x, %v, not %.60x", h, load, s, e, packet(h, load))
			}
		}
	}
}

// TestEncodeLong (P5.1): MaxPacket bytes may be, one more may not, nor as many as make a length that begins anew.
func TestEncodeLong(t *testing.T) {
	most := strings.Repeat("m", api.MaxPacket-api.IPHead)
	if s, e := Encode(exampleHead, most); len(s) != 65535 || s[2:4] != "\xff\xff" || e != api.OK {
		t.Errorf("a packet of MaxPacket bytes has %d, %v", len(s), e)
	}
	for _, more := range []int{1, 2, 19, 20, 21, 22, 100, 65536, 65537, 1 << 20} {
		for _, h := range heads() {
			if s, e := Encode(h, most+strings.Repeat("m", more)); s != "" || e != api.ErrLong {
				t.Errorf("a packet of %d bytes more is %.60x, %v", more, s, e)
			}
		}
	}
}

// TestShort (P5.2): fewer than IPHead bytes, whatever they are.
func TestShort(t *testing.T) {
	for n := range 20 {
		for _, s := range []string{example[:n], strings.Repeat("\x00", n), strings.Repeat("\xff", n), strings.Repeat("E", n), strings.Repeat("\x65", n)} {
			told(t, s, api.ErrShort)
		}
		if n >= 4 {
			told(t, with(example[:n], 3, byte(n)), api.ErrShort)
		}
	}
	decoded(t, example, exampleHead, "")
}

// TestVersion (P5.2): all halves of the first byte, in packets that are right but for these.
func TestVersion(t *testing.T) {
	for high := range 16 {
		for low := range 16 {
			s := righted(with(packet(exampleHead, "load"), 0, byte(high*16+low)))
			switch {
			case high != 4:
				told(t, s, api.ErrVersion)
			case low != 5:
				told(t, s, api.ErrHead)
			default:
				decoded(t, s, exampleHead, "load")
			}
		}
	}
	// a head with an option, as it may be elsewhere
	told(t, righted(with(packet(exampleHead, "\x01\x01\x01\x00load"), 0, 0x46)), api.ErrHead)
}

// TestLength (P5.2): all lengths that may be told, and bytes that are as many but for 65,536.
func TestLength(t *testing.T) {
	const load = "a load of its own"
	s := packet(exampleHead, load)
	for n := range 65536 {
		other := righted(with(s, 2, byte(n>>8), byte(n)))
		if n == len(s) {
			decoded(t, other, exampleHead, load)
		} else {
			told(t, other, api.ErrLength)
		}
	}
	most := packet(exampleHead, strings.Repeat("m", api.MaxPacket-api.IPHead))
	told(t, most+"m", api.ErrLength)
	for _, more := range []int{65536, 2 * 65536, 1 << 20} {
		told(t, s+strings.Repeat("m", more), api.ErrLength)
		told(t, most+strings.Repeat("m", more), api.ErrLength)
	}
	told(t, righted(with(most+"m", 2, 0, 0)), api.ErrLength)
}

// TestSum (P5.2): all checksums; 65,535 is right where 0 is, since both make the sum 65,535.
func TestSum(t *testing.T) {
	nought := api.IP{Src: 0xbaeb0000}
	if s := packet(nought, ""); s[10:12] != "\x00\x00" {
		t.Fatalf("its checksum is %x", s[10:12])
	}
	for _, x := range []struct {
		h    api.IP
		load string
	}{{exampleHead, ""}, {exampleHead, "load"}, {nought, ""}} {
		s := packet(x.h, x.load)
		for n := range 65536 {
			other := with(s, 10, byte(n>>8), byte(n))
			if other == s || x.h == nought && n == 65535 {
				decoded(t, other, x.h, x.load)
			} else {
				told(t, other, api.ErrSum)
			}
		}
	}
}

// TestSumOfHead (P5.2): the load is not of the sum.
func TestSumOfHead(t *testing.T) {
	s := packet(exampleHead, "load")
	for bit := range 32 {
		b := []byte(s)
		b[20+bit/8] ^= 1 << (bit % 8)
		decoded(t, string(b), exampleHead, string(b[20:]))
	}
}

// TestFragment (P5.2): DF alone, each other bit alone and beside it, and all else that these two bytes may be.
func TestFragment(t *testing.T) {
	h := api.IP{Src: 1, Dst: 2, Proto: 6, TTL: 64, ID: 7}
	hDF := h
	hDF.DF = true
	s := packet(h, "load")
	decoded(t, s, h, "load")
	decoded(t, righted(with(s, 6, 64, 0)), hDF, "load")
	for bit := range 16 {
		for _, df := range []int{0, 1 << 14} {
			if n := 1<<bit | df; bit != 14 {
				told(t, righted(with(s, 6, byte(n>>8), byte(n))), api.ErrFragment)
			}
		}
	}
	for n := range 65536 {
		if n != 0 && n != 1<<14 {
			told(t, righted(with(s, 6, byte(n>>8), byte(n))), api.ErrFragment)
		}
	}
}

// TestFirstFault (P5.2): of faults, alone, two at once, and more, the one is told that the promise names first.
func TestFirstFault(t *testing.T) {
	order := []struct {
		e     api.Errno
		spoil func(s string) string
	}{
		{api.ErrVersion, func(s string) string { return with(s, 0, s[0]^0x20) }},
		{api.ErrHead, func(s string) string { return with(s, 0, s[0]^0x03) }},
		{api.ErrLength, func(s string) string { return with(s, 2, s[2], s[3]^0x10) }},
		{api.ErrSum, func(s string) string { return with(s, 10, s[10], s[11]^1) }},
		{api.ErrFragment, func(s string) string { return with(s, 6, s[6]|0x20, s[7]) }},
	}
	sum := 3 // its place: it is spoilt behind all others, which leave it right
	for _, h := range heads() {
		for _, load := range []string{"", "load"} {
			for set := range 1 << len(order) {
				s, first := packet(h, load), api.OK
				for i := len(order) - 1; i >= 0; i-- {
					if set>>i&1 == 1 {
						first = order[i].e
						if i != sum {
							s = righted(order[i].spoil(s))
						}
					}
				}
				if set>>sum&1 == 1 {
					s = order[sum].spoil(s)
				}
				if first == api.OK {
					decoded(t, s, h, load)
				} else {
					told(t, s, first)
				}
				told(t, s[:19], api.ErrShort)
			}
		}
	}
}

// TestWrittenIsRead (P5.3): each head with each load.
func TestWrittenIsRead(t *testing.T) {
	for _, h := range heads() {
		for _, load := range loads() {
			s, e := Encode(h, load)
			if e != api.OK {
				t.Errorf("Encode(%v, %.40q): %v", h, load, e)
			}
			decoded(t, s, h, load)
		}
	}
}

// TestTurnedBit (P5.3): a head of which one bit is turned is not read, each bit of it.
func TestTurnedBit(t *testing.T) {
	for _, h := range heads() {
		for _, load := range []string{"", "load", strings.Repeat("\xff", 1000)} {
			s, _ := Encode(h, load)
			for bit := range 160 {
				want := api.ErrSum
				switch {
				case bit < 4:
					want = api.ErrHead
				case bit < 8:
					want = api.ErrVersion
				case bit/8 == 2 || bit/8 == 3:
					want = api.ErrLength
				}
				told(t, with(s, bit/8, s[bit/8]^1<<(bit%8)), want)
			}
		}
	}
}

// TestCutOrLonger (P5.3): what is cut off anywhere is not read, nor what is longer.
func TestCutOrLonger(t *testing.T) {
	for _, h := range heads() {
		for _, load := range []string{"", "l", "load", example, strings.Repeat("\x00", 300)} {
			s, _ := Encode(h, load)
			for n := range len(s) {
				if n < 20 {
					told(t, s[:n], api.ErrShort)
				} else {
					told(t, s[:n], api.ErrLength)
				}
			}
			for _, more := range []string{"\x00", "x", "\xff", "\x00\x00", "more", example, s} {
				told(t, s+more, api.ErrLength)
			}
		}
	}
	s, _ := Encode(exampleHead, strings.Repeat("m", api.MaxPacket-api.IPHead))
	told(t, s[:len(s)-1], api.ErrLength)
	told(t, s+"\x00", api.ErrLength)
}

// TestWhatever (P5.2): bytes that jump about are read just if they are the packet of what is read.
func TestWhatever(t *testing.T) {
	next := jumping(52)
	read := 0
	for range 20000 {
		b := make([]byte, next()>>26)
		for i := range b {
			b[i] = byte(next() >> 24)
		}
		how := next() >> 29
		if len(b) > 7 && how&1 == 1 {
			b[0], b[2], b[3], b[6], b[7] = 0x45, 0, byte(len(b)), b[6]&0x40, 0
		}
		s := string(b)
		if len(b) >= 20 && how&2 == 2 {
			s = righted(s)
		}
		h, load, e := Decode(s)
		if e != api.OK {
			told(t, s, e)
			continue
		}
		read++
		if packet(h, load) != s {
			t.Errorf("%x is read as %v, %q", s, h, load)
		}
	}
	if read < 1000 {
		t.Errorf("only %d are read", read)
	}
}

// TestOwnMemory (R5): a load is no piece of the packet that was handed in.
func TestOwnMemory(t *testing.T) {
	s := packet(exampleHead, "load")
	if _, load, _ := Decode(s); unsafe.StringData(load) == unsafe.StringData(s[20:]) {
		t.Error("the load is a piece of the packet")
	}
}
