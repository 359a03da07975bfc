package tcp

import (
	"strings"
	"testing"
	"unsafe"

	"transom/api"
)

// longest is how many bytes a segment may have.
const longest = 65535 - 20

// Between whom the chapter's segment goes.
const (
	one = 0x0a000001
	two = 0x0a000002
)

// example is the chapter's segment, and exampleHead its head.
const example = "\x00\x01\x00\x02\x00\x00\x00\x03\x00\x00\x00\x00\x50\x02\x00\x04\x9b\xd6\x00\x00"

var exampleHead = api.TCP{Src: 1, Dst: 2, Seq: 3, Flags: api.FlagSYN, Window: 4}

// jumping hands over numbers that jump about, the same in each run.
func jumping(from uint32) func() uint32 {
	half := func() uint32 {
		from = from*1664525 + 1013904223
		return from >> 16
	}
	return func() uint32 { return half()<<16 | half() }
}

// heads have the numbers' ends, numbers whose bytes all differ, each field alone, options of all lengths, and some that jump about.
func heads() []api.TCP {
	l := []api.TCP{
		{},
		exampleHead,
		{Src: 65535, Dst: 65535, Seq: 1<<32 - 1, Ack: 1<<32 - 1, Flags: 63, Window: 65535, Urgent: 65535, Opts: strings.Repeat("\xff", 40)},
		{Src: 0x0102, Dst: 0x0304, Seq: 0x05060708, Ack: 0x090a0b0c, Flags: 0x0d, Window: 0x0e0f, Urgent: 0x1011, Opts: "\x12\x13\x14\x15"},
		{Src: 0x8000}, {Src: 1}, {Dst: 0x8000}, {Dst: 1}, {Seq: 0x80000000}, {Seq: 1}, {Ack: 0x80000000}, {Ack: 1}, {Window: 0x8000}, {Window: 1}, {Urgent: 0x8000}, {Urgent: 1},
	}
	for bit := range 6 {
		l = append(l, api.TCP{Flags: 1 << bit})
	}
	for n := 0; n <= 40; n += 4 {
		l = append(l, api.TCP{Opts: strings.Repeat("\x01", n)}, api.TCP{Src: 7, Opts: strings.Repeat("\x00", n)})
	}
	next := jumping(6)
	for range 50 {
		n := next()
		opts := make([]byte, n>>16%11*4)
		for i := range opts {
			opts[i] = byte(next() >> 24)
		}
		l = append(l, api.TCP{Src: uint16(next()), Dst: uint16(next()), Seq: next(), Ack: next(), Flags: uint8(n) & 63, Window: uint16(next()), Urgent: uint16(next()), Opts: string(opts)})
	}
	return l
}

// datas are ordinary ones, none, and the longest that there is behind n bytes of options.
func datas(n int) []string {
	return []string{"", "a", "\x00", "data", "odd", strings.Repeat("\xff", 19), strings.Repeat("\x00", 20), strings.Repeat("z", 215), strings.Repeat("y", 216), example, strings.Repeat("data", 365), strings.Repeat("x", longest-20-n-1), strings.Repeat("\xfe", longest-20-n)}
}

// righted is s with the checksum laid into it by which it goes from src to dst, told as the chapter tells it.
func righted(src, dst uint32, s string) string {
	b := []byte(s)
	b[16], b[17] = 0, 0
	n := int(src>>16) + int(src&65535) + int(dst>>16) + int(dst&65535) + 6 + len(b)%65536
	for i := range b {
		if i%2 == 0 {
			n += int(b[i]) * 256
		} else {
			n += int(b[i])
		}
	}
	for n > 65535 {
		n = n%65536 + n/65536
	}
	n = 65535 - n
	b[16], b[17] = byte(n/256), byte(n%256)
	return string(b)
}

// segment is the segment of h and data, told as the chapter tells it.
func segment(src, dst uint32, h api.TCP, data string) string {
	head := []byte{byte(h.Src / 256), byte(h.Src % 256), byte(h.Dst / 256), byte(h.Dst % 256),
		byte(h.Seq / 16777216), byte(h.Seq / 65536 % 256), byte(h.Seq / 256 % 256), byte(h.Seq % 256),
		byte(h.Ack / 16777216), byte(h.Ack / 65536 % 256), byte(h.Ack / 256 % 256), byte(h.Ack % 256),
		byte(16 * (5 + len(h.Opts)/4)), h.Flags, byte(h.Window / 256), byte(h.Window % 256), 0, 0, byte(h.Urgent / 256), byte(h.Urgent % 256)}
	return righted(src, dst, string(head)+h.Opts+data)
}

// with is s with other bytes from that place on.
func with(s string, place int, other ...byte) string {
	return s[:place] + string(other) + s[place+len(other):]
}

// told tells that s is told to be e, and nothing else of it.
func told(t *testing.T, src, dst uint32, s string, e api.Errno) {
	t.Helper()
	h, data, got := Decode(src, dst, s)
	if got != e || h != (api.TCP{}) || data != "" {
		t.Errorf("Decode(%x, %x, %.60x), of %d bytes, is %v, %d bytes, %v, not %v", src, dst, s, len(s), h, len(data), got, e)
	}
}

// decoded tells that s is read as h and data.
func decoded(t *testing.T, src, dst uint32, s string, h api.TCP, data string) {
	t.Helper()
	if g, d, e := Decode(src, dst, s); g != h || d != data || e != api.OK {
		t.Errorf("Decode(%x, %x, %.60x), of %d bytes, is %v, %.40q, %v, not %v, %.40q", src, dst, s, len(s), g, d, e, h, data)
	}
}

// refused tells that Encode answers e, and no bytes.
func refused(t *testing.T, h api.TCP, data string, e api.Errno) {
	t.Helper()
	if s, got := Encode(one, two, h, data); s != "" || got != e {
		t.Errorf("flags %x, %d bytes of options, %d of data are %.40x, %v, not %v", h.Flags, len(h.Opts), len(data), s, got, e)
	}
}

// TestExample: the chapter's.
func TestExample(t *testing.T) {
	if s, e := Encode(one, two, exampleHead, ""); s != example || e != api.OK {
		t.Errorf("it is %x, %v", s, e)
	}
	decoded(t, one, two, example, exampleHead, "")
}

// TestEncode (P6.1): segments that are written out.
func TestEncode(t *testing.T) {
	some := api.TCP{Src: 0x090a, Dst: 0x0b0c, Seq: 0x0d0e0f10, Ack: 0x11121314, Flags: 0x15, Window: 0x1617, Urgent: 0x1819}
	asks := some
	asks.Opts = "\x02\x04\x05\xb4"
	for _, x := range []struct {
		src, dst uint32
		h        api.TCP
		data     string
		want     string
	}{
		{0, 0, api.TCP{}, "", "\x00\x00\x00\x00\x00\x00\x00\x00\x00\x00\x00\x00\x50\x00\x00\x00\xaf\xe5\x00\x00"},
		{0x01020304, 0x05060708, some, "data", "\x09\x0a\x0b\x0c\x0d\x0e\x0f\x10\x11\x12\x13\x14\x50\x15\x16\x17\x44\x6b\x18\x19data"},
		{0x01020304, 0x05060708, asks, "odd", "\x09\x0a\x0b\x0c\x0d\x0e\x0f\x10\x11\x12\x13\x14\x60\x15\x16\x17\x32\x0e\x18\x19\x02\x04\x05\xb4odd"},
		{one, two, api.TCP{Src: 80, Dst: 40000, Seq: 0xfffffffe, Ack: 7, Flags: api.FlagACK | api.FlagPSH, Window: 512, Opts: "\x01\x01\x08\x0a\x00\x00\x00\x05\x00\x00\x00\x06"}, "GET /",
			"\x00\x50\x9c\x40\xff\xff\xff\xfe\x00\x00\x00\x07\x80\x18\x02\x00\xf9\xa6\x00\x00\x01\x01\x08\x0a\x00\x00\x00\x05\x00\x00\x00\x06GET /"},
		{1<<32 - 1, 1<<32 - 1, api.TCP{Src: 65535, Dst: 65535, Seq: 1<<32 - 1, Ack: 1<<32 - 1, Flags: 63, Window: 65535, Urgent: 65535, Opts: strings.Repeat("\xff", 40)}, "\x00",
			"\xff\xff\xff\xff\xff\xff\xff\xff\xff\xff\xff\xff\xf0\x3f\xff\xff\x0f\x7d\xff\xff" + strings.Repeat("\xff", 40) + "\x00"},
	} {
		if s, e := Encode(x.src, x.dst, x.h, x.data); s != x.want || e != api.OK {
			t.Errorf("Encode(%x, %x, %v, %q) is %x, %v, not %x", x.src, x.dst, x.h, x.data, s, e, x.want)
		}
	}
}

// TestEncodeAll (P6.1): each head with each data, the longest one too, between addresses of all kinds.
func TestEncodeAll(t *testing.T) {
	next := jumping(61)
	for _, h := range heads() {
		for _, data := range datas(len(h.Opts)) {
			for _, a := range [][2]uint32{{0, 0}, {one, two}, {1<<32 - 1, 1<<32 - 1}, {0x80000000, 1}, {next(), next()}} {
				if s, e := Encode(a[0], a[1], h, data); s != segment(a[0], a[1], h, data) || e != api.OK {
					t.Errorf("Encode(%x, %v, %.40q) is %.60x, %v, not %.60x", a, h, data, s, e, segment(a[0], a[1], h, data))
				}
			}
		}
	}
}

// TestEncodeOptions (P6.1): just those of a multiple of four bytes, up to MaxOpts.
func TestEncodeOptions(t *testing.T) {
	for n := range 200 {
		h := exampleHead
		h.Opts = strings.Repeat("\x01", n)
		if n <= 40 && n%4 == 0 {
			if s, e := Encode(one, two, h, "data"); s != segment(one, two, h, "data") || e != api.OK {
				t.Errorf("with %d bytes of options it is %x, %v", n, s, e)
			}
		} else {
			refused(t, h, "data", api.ErrArg)
		}
	}
	for _, n := range []int{256, 260, 1 << 16, 1<<16 + 4, 1 << 20} {
		h := exampleHead
		h.Opts = strings.Repeat("\x01", n)
		refused(t, h, "", api.ErrArg)
	}
}

// TestEncodeFlags (P6.1): all of them; those with a high bit may not be.
func TestEncodeFlags(t *testing.T) {
	for n := range 256 {
		h := exampleHead
		h.Flags = uint8(n)
		if n < 64 {
			if s, e := Encode(one, two, h, "data"); s != segment(one, two, h, "data") || e != api.OK {
				t.Errorf("with flags %x it is %x, %v", n, s, e)
			}
		} else {
			refused(t, h, "data", api.ErrArg)
		}
	}
}

// TestEncodeLong (P6.1): a segment may have MaxPacket - IPHead bytes, options and all, and not one more.
func TestEncodeLong(t *testing.T) {
	for n := 0; n <= 40; n += 4 {
		h := exampleHead
		h.Opts = strings.Repeat("\x00", n)
		data := strings.Repeat("m", longest-20-n)
		if s, e := Encode(one, two, h, data); s != segment(one, two, h, data) || len(s) != 65515 || e != api.OK {
			t.Errorf("with %d bytes of options, the longest segment has %d bytes, %v", n, len(s), e)
		}
		for _, more := range []int{1, 2, 3, 4, 19, 20, 21, 22, 100, 65536, 65537, 1 << 20} {
			refused(t, h, data+strings.Repeat("m", more), api.ErrLong)
		}
	}
}

// TestEncodeFirst (P6.1): ErrArg is told ahead of ErrLong.
func TestEncodeFirst(t *testing.T) {
	data := strings.Repeat("m", longest)
	refused(t, api.TCP{}, data, api.ErrLong)
	for _, h := range []api.TCP{{Opts: "x"}, {Opts: strings.Repeat("\x01", 44)}, {Flags: 64}, {Flags: 128}, {Flags: 192, Opts: "odd"}} {
		refused(t, h, data, api.ErrArg)
		refused(t, h, data[:longest-20-len(h.Opts)+1], api.ErrArg)
	}
}

// TestShort (P6.2): fewer than TCPHead bytes, whatever they are.
func TestShort(t *testing.T) {
	for n := range 20 {
		for _, s := range []string{example[:n], strings.Repeat("\x00", n), strings.Repeat("\xff", n), strings.Repeat("P", n)} {
			told(t, one, two, s, api.ErrShort)
			told(t, 0, 0, s, api.ErrShort)
			if n >= 18 {
				told(t, one, two, righted(one, two, s), api.ErrShort)
			}
		}
	}
	decoded(t, one, two, example, exampleHead, "")
}

// TestLong (P6.2): MaxPacket - IPHead bytes may be, more may not, right as they are else.
func TestLong(t *testing.T) {
	for _, h := range heads() {
		data := strings.Repeat("m", longest-20-len(h.Opts))
		s := segment(one, two, h, data)
		decoded(t, one, two, s, h, data)
		told(t, one, two, segment(one, two, h, data+"m"), api.ErrLong)
	}
	s := strings.Repeat("m", longest-20)
	for _, more := range []int{1, 2, 19, 20, 21, 22, 65515, 65516, 65535, 65536, 65537, 1 << 20} {
		told(t, one, two, segment(one, two, exampleHead, s+strings.Repeat("m", more)), api.ErrLong)
		told(t, one, two, segment(one, two, exampleHead, s)+strings.Repeat("m", more), api.ErrLong)
	}
}

// TestSum (P6.2): all checksums; 65,535 is right where 0 is, since both make one sum.
func TestSum(t *testing.T) {
	nought := exampleHead
	nought.Window = 0x9bda
	if s := segment(one, two, nought, ""); s[16:18] != "\x00\x00" {
		t.Fatalf("its checksum is %x", s[16:18])
	}
	options := exampleHead
	options.Opts = "\x02\x04\x05\xb4"
	for _, x := range []struct {
		h    api.TCP
		data string
	}{{exampleHead, ""}, {exampleHead, "data"}, {exampleHead, "odd"}, {options, "odd"}, {nought, ""}} {
		s := segment(one, two, x.h, x.data)
		for n := range 65536 {
			other := with(s, 16, byte(n>>8), byte(n))
			if other == s || x.h == nought && n == 65535 {
				decoded(t, one, two, other, x.h, x.data)
			} else {
				told(t, one, two, other, api.ErrSum)
			}
		}
	}
}

// TestSumOfLength (P6.2): a segment is not that of one byte 0 more, or less.
func TestSumOfLength(t *testing.T) {
	for _, data := range []string{"", "d", "data", "\x00", "\x00\x00", "a\x00\x00"} {
		s := segment(one, two, exampleHead, data)
		told(t, one, two, s+"\x00", api.ErrSum)
		told(t, one, two, s+"\x00\x00", api.ErrSum)
		if strings.HasSuffix(data, "\x00") {
			told(t, one, two, s[:len(s)-1], api.ErrSum)
		}
	}
}

// TestOffset (P6.2): all that it may be, in segments of all lengths up to a whole head's, and beyond, that are right but for it.
func TestOffset(t *testing.T) {
	rest := strings.Repeat("rest", 13)
	for n := 20; n < 70; n++ {
		s := (example + rest)[:n]
		for words := range 16 {
			other := righted(one, two, with(s, 12, byte(words*16)))
			if words < 5 || words*4 > n {
				told(t, one, two, other, api.ErrOffset)
				continue
			}
			h := exampleHead
			h.Opts = s[20 : words*4]
			decoded(t, one, two, other, h, s[words*4:])
		}
	}
	for words := range 16 {
		data := strings.Repeat("m", longest-20)
		if s := righted(one, two, with(example, 12, byte(words*16))+data); words < 5 {
			told(t, one, two, s, api.ErrOffset)
		} else {
			h := exampleHead
			h.Opts = data[:words*4-20]
			decoded(t, one, two, s, h, data[words*4-20:])
		}
	}
}

// TestReserved (P6.2): each bit that has no meaning, alone, and all that the thirteenth and the fourteenth byte may be.
func TestReserved(t *testing.T) {
	s := segment(one, two, exampleHead, "data")
	for _, bit := range []int{0, 1, 2, 3} {
		told(t, one, two, righted(one, two, with(s, 12, s[12]|1<<bit)), api.ErrReserved)
	}
	for _, bit := range []int{6, 7} {
		told(t, one, two, righted(one, two, with(s, 13, s[13]|1<<bit)), api.ErrReserved)
	}
	for low := range 16 {
		for flags := range 256 {
			other := righted(one, two, with(s, 12, byte(0x50+low), byte(flags)))
			if low != 0 || flags >= 64 {
				told(t, one, two, other, api.ErrReserved)
			} else {
				h := exampleHead
				h.Flags = uint8(flags)
				decoded(t, one, two, other, h, "data")
			}
		}
	}
}

// TestFirstFault (P6.2): of faults, alone, two at once, and more, the one is told that the promise names first.
func TestFirstFault(t *testing.T) {
	order := []struct {
		e     api.Errno
		spoil func(s string) string
	}{
		{api.ErrSum, func(s string) string { return with(s, 16, s[16], s[17]^1) }},
		{api.ErrOffset, func(s string) string { return with(s, 12, 0x40|s[12]&0x0f) }},
		{api.ErrOffset, func(s string) string { return with(s, 12, 0xf0|s[12]&0x0f) }}, // of segments that are not so long
		{api.ErrReserved, func(s string) string { return with(s, 12, s[12]|0x01) }},
		{api.ErrReserved, func(s string) string { return with(s, 13, s[13]|0x80) }},
	}
	for _, h := range heads() {
		for _, data := range []string{"", "data"} {
			if len(h.Opts) > 32 { // whose greatest offset may be right
				continue
			}
			for set := range 1 << len(order) {
				s, first := segment(one, two, h, data), api.OK
				for i := len(order) - 1; i > 0; i-- {
					if set>>i&1 == 1 {
						s, first = righted(one, two, order[i].spoil(s)), order[i].e
					}
				}
				if set&1 == 1 { // behind all others, which leave the sum right
					s, first = order[0].spoil(s), order[0].e
				}
				if first == api.OK {
					decoded(t, one, two, s, h, data)
				} else {
					told(t, one, two, s, first)
				}
				told(t, one, two, s[:19], api.ErrShort)
			}
		}
	}
	long := segment(one, two, exampleHead, strings.Repeat("m", longest-20+1))
	for _, x := range order {
		if x.e == api.ErrSum {
			told(t, one, two, x.spoil(long), api.ErrLong)
		} else {
			told(t, one, two, righted(one, two, x.spoil(long)), api.ErrLong)
		}
	}
}

// TestWrittenIsRead (P6.3): each head with each data, by the same addresses.
func TestWrittenIsRead(t *testing.T) {
	next := jumping(62)
	for _, h := range heads() {
		for _, data := range datas(len(h.Opts)) {
			src, dst := next(), next()
			s, e := Encode(src, dst, h, data)
			if e != api.OK {
				t.Errorf("Encode(%x, %x, %v, %.40q): %v", src, dst, h, data, e)
			}
			decoded(t, src, dst, s, h, data)
		}
	}
}

// TestTurnedBit (P6.3): a segment of which one bit is turned is not read, each bit of it.
func TestTurnedBit(t *testing.T) {
	for _, h := range heads() {
		for _, data := range []string{"", "data", "odd", strings.Repeat("\xff", 100)} {
			s, _ := Encode(one, two, h, data)
			for bit := range 8 * len(s) {
				told(t, one, two, with(s, bit/8, s[bit/8]^1<<(bit%8)), api.ErrSum)
			}
		}
	}
}

// TestOtherAddress (P6.3): a segment is not read by another address, each bit of both.
func TestOtherAddress(t *testing.T) {
	next := jumping(63)
	for _, h := range heads() {
		for _, data := range []string{"", "data", "odd"} {
			src, dst := next(), next()
			s, _ := Encode(src, dst, h, data)
			decoded(t, src, dst, s, h, data)
			for bit := range 32 {
				told(t, src^1<<bit, dst, s, api.ErrSum)
				told(t, src, dst^1<<bit, s, api.ErrSum)
			}
		}
	}
	told(t, one, 0x0a000003, example, api.ErrSum)
	told(t, 0x0a000003, two, example, api.ErrSum)
	told(t, 0, 0, example, api.ErrSum)
}

// TestSameSum (P6.3): a segment is read by addresses that make the same sum: both changed places, words of them did, a word 0 is 65,535.
func TestSameSum(t *testing.T) {
	edges := []uint32{0, 1, one, two, 0x00010a00, 0x0a00, 0x0b000000, 0x00000b00, 0xffff, 0xffff0000, 1<<32 - 1, 0x80000000, 0x7fff8000}
	words := func(a, b uint32) int { return (int(a>>16) + int(a&65535) + int(b>>16) + int(b&65535)) % 65535 }
	other := 0
	for _, src := range edges {
		for _, dst := range edges {
			s, _ := Encode(src, dst, exampleHead, "data")
			decoded(t, dst, src, s, exampleHead, "data")
			for _, from := range edges {
				for _, to := range edges {
					if words(from, to) == words(src, dst) {
						decoded(t, from, to, s, exampleHead, "data")
						continue
					}
					told(t, from, to, s, api.ErrSum)
					other++
				}
			}
		}
	}
	if other == 0 {
		t.Error("all make the same sum")
	}
	decoded(t, two, one, example, exampleHead, "")
	decoded(t, 0x00010a00, two, example, exampleHead, "")
}

// TestWhatever (P6.2): bytes that jump about are read just if they are the segment of what is read.
func TestWhatever(t *testing.T) {
	next := jumping(64)
	read := 0
	for range 20000 {
		b := make([]byte, next()>>25)
		for i := range b {
			b[i] = byte(next() >> 24)
		}
		how := next() >> 29
		if len(b) > 13 && how&1 == 1 {
			b[12], b[13] = b[12]&0xf0, b[13]&63
		}
		s := string(b)
		if len(b) >= 20 && how&6 != 0 {
			s = righted(one, two, s)
		}
		h, data, e := Decode(one, two, s)
		if e != api.OK {
			told(t, one, two, s, e)
			continue
		}
		read++
		if segment(one, two, h, data) != s {
			t.Errorf("%x is read as %v, %q", s, h, data)
		}
	}
	if read < 1000 {
		t.Errorf("only %d are read", read)
	}
}

// TestOwnMemory (R5): options and data are no pieces of the segment that was handed in.
func TestOwnMemory(t *testing.T) {
	h := exampleHead
	h.Opts = "\x02\x04\x05\xb4"
	s := segment(one, two, h, "data")
	g, data, _ := Decode(one, two, s)
	if unsafe.StringData(g.Opts) == unsafe.StringData(s[20:]) {
		t.Error("the options are a piece of the segment")
	}
	if unsafe.StringData(data) == unsafe.StringData(s[24:]) {
		t.Error("the data is a piece of the segment")
	}
}
