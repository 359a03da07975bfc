package pkt

import (
	"encoding/binary"
	"math"
	"strings"
	"testing"
	"unsafe"

	"transom/api"
)

// flagsThatMay are all of them.
var flagsThatMay = []byte{0, 1, 2, 4, 8, 9, 10, 12, 16, 17, 18, 20, 24, 25, 26, 28}

// jumping hands over numbers that jump about, the same in each run.
func jumping(from uint32) func() uint32 {
	half := func() uint32 {
		from = from*1664525 + 1013904223
		return from >> 16
	}
	return func() uint32 { return half()<<16 | half() }
}

// two, four are n's bytes.
func two(n uint16) string  { return string(binary.BigEndian.AppendUint16(nil, n)) }
func four(n uint32) string { return string(binary.BigEndian.AppendUint32(nil, n)) }

// with is s with other bytes from that place on.
func with(s string, place int, other string) string {
	return s[:place] + other + s[place+len(other):]
}

// checksum is that of s, told as the chapter of layer 3 tells it.
func checksum(s string) uint16 {
	n := 0
	for i := range len(s) {
		if i%2 == 0 {
			n += int(s[i]) * 256
		} else {
			n += int(s[i])
		}
	}
	for n > 65535 {
		n = n%65536 + n/65536
	}
	return uint16(65535 - n)
}

// raw is a packet, told by all that its heads have, and by what is wrong with it.
type raw struct {
	first, tos   byte
	longer       uint16 // how much more it tells than it has
	id, fragment uint16
	ttl, proto   byte
	headOff      uint16 // what is added to the head's checksum
	src, dst     uint32
	from, to     uint16
	seq, ack     uint32
	offset       byte // what is added to the byte that tells where data begin
	flags        byte
	window       uint16
	off          uint16 // what is added to the segment's checksum
	urgent       uint16
	opts, data   string
	load         int // as many bytes has the segment: all, if 0
	size         int // as many bytes has the packet: all, if 0
}

// own is the packet of s, whose options are the bytes opts.
func own(s api.Seg, opts string) raw {
	return raw{first: 0x45, fragment: 0x4000, ttl: 64, proto: 6, src: s.Src.IP, dst: s.Dst.IP, from: s.Src.Port, to: s.Dst.Port,
		seq: s.Seq, ack: s.Ack, flags: s.Flags, window: s.Window, opts: opts, data: s.Data}
}

// segment are the bytes of what r carries.
func (r raw) segment() string {
	s := two(r.from) + two(r.to) + four(r.seq) + four(r.ack) + string([]byte{byte(5+len(r.opts)/4)<<4 + r.offset, r.flags}) + two(r.window) + "\x00\x00" + two(r.urgent) + r.opts + r.data
	sum := checksum(four(r.src) + four(r.dst) + "\x00\x06" + two(uint16(len(s))) + s)
	s = with(s, 16, two(sum+r.off))
	if r.load > 0 {
		return s[:r.load]
	}
	return s
}

// bytes are all of r's.
func (r raw) bytes() string {
	load := r.segment()
	head := string([]byte{r.first, r.tos}) + two(uint16(20+len(load))+r.longer) + two(r.id) + two(r.fragment) + string([]byte{r.ttl, r.proto}) + "\x00\x00" + four(r.src) + four(r.dst)
	s := with(head, 10, two(checksum(head)+r.headOff)) + load
	if r.size > 0 {
		return s[:r.size]
	}
	return s
}

// turned is what r becomes by x, told field by field; its options are other bytes then.
func (r raw) turned(x api.Shift, opts string) raw {
	r.src, r.dst, r.from, r.to = x.Src.IP, x.Dst.IP, x.Src.Port, x.Dst.Port
	r.seq += x.Seq
	if r.flags&16 != 0 {
		r.ack += x.Ack
	}
	r.window = windowTold(r.window, x.Up, x.Down)
	r.opts = opts
	return r
}

// windowTold is w turned, told as the chapter tells it: times 2 so often, by 2 so often.
func windowTold(w uint16, up, down int) uint16 {
	times, by := 1, 1
	for i := 0; i < up && i < 14; i++ {
		times *= 2
	}
	for i := 0; i < down && i < 14; i++ {
		by *= 2
	}
	if n := int(w) * times / by; n < 65535 {
		return uint16(n)
	}
	return 65535
}

// part is a part of options' bytes, by what is added to the numbers of blocks, to Val, to Echo; and what it says.
type part struct {
	bytes func(x api.Shift) string
	says  func(o *api.Opts)
}

// still are bytes that are never turned.
func still(s string, says func(o *api.Opts)) part {
	return part{func(api.Shift) string { return s }, says}
}

// silent are bytes that are never turned, and say nothing.
func silent(s string) part {
	return still(s, func(*api.Opts) {})
}

// timed are those of a time.
func timed(val, echo uint32) part {
	return part{
		func(x api.Shift) string { return "\x08\x0a" + four(val+x.Val) + four(echo+x.Echo) },
		func(o *api.Opts) { o.Time, o.Val, o.Echo = true, val, echo },
	}
}

// blocked are those of blocks: from, to, from, to ..
func blocked(numbers ...uint32) part {
	return part{
		func(x api.Shift) string {
			s := "\x05" + string([]byte{byte(2 + 4*len(numbers))})
			for _, n := range numbers {
				s += four(n + x.Ack)
			}
			return s
		},
		func(o *api.Opts) {
			for i := 0; i < len(numbers); i += 2 {
				o.Blocks = append(o.Blocks, api.Block{From: numbers[i], To: numbers[i+1]})
			}
		},
	}
}

// mss, scale, sack are those of these.
func mss(n uint16) part {
	return still("\x02\x04"+two(n), func(o *api.Opts) { o.MSS = n })
}
func scale(n byte) part {
	return still("\x03\x03"+string([]byte{n}), func(o *api.Opts) { o.Scale = min(int(n), 14) })
}
func sack() part {
	return still("\x04\x02", func(o *api.Opts) { o.Sack = true })
}

// parts are those of one packet.
type parts []part

// bytes are those of all parts, turned by x.
func (l parts) bytes(x api.Shift) string {
	s := ""
	for _, p := range l {
		s += p.bytes(x)
	}
	return s
}

// opts are what all parts say.
func (l parts) opts() api.Opts {
	o := api.Opts{Scale: -1}
	for _, p := range l {
		p.says(&o)
	}
	return o
}

// usual are options as they are written.
func usual() []parts {
	nothing, two := silent("\x01"), silent("\x01\x01")
	return []parts{
		{},
		{mss(1460)},
		{nothing, scale(0)},
		{two, sack()},
		{two, timed(5, 6)},
		{two, timed(1<<32-1, 0)},
		{two, blocked(1, 3)},
		{two, blocked(1<<32-1, 0, 5, 1<<32-1, 7, 9, 1<<31, 1<<31+5)},
		{mss(1), nothing, scale(14), two, sack()},
		{mss(65535), nothing, scale(7), two, sack(), two, timed(0x01020304, 0x05060708)},
		{mss(536), nothing, scale(1), two, timed(1<<32-1, 1<<32-2), two, blocked(1, 1<<32-1, 1<<32-2, 0)},
		{two, timed(1<<31, 1<<31-1), two, blocked(0xfffffff0, 0xffffffff, 1, 2, 0xffff, 0x10000)},
	}
}

// foreign are options of their own: other kinds, bytes of nothing anywhere, bytes behind the end, and more than can be written.
func foreign() []parts {
	nothing := silent("\x01")
	return []parts{
		{silent("\x00\x00\x00\x00")},
		{silent("\x00\xff\xff\xff")},
		{nothing, nothing, nothing, nothing},
		{nothing, timed(5, 6), nothing},
		{timed(5, 6), silent("\x00\x08")},
		{nothing, nothing, nothing, timed(1<<32-1, 7), nothing, nothing, silent("\x00")},
		{sack(), timed(1<<32-1, 1<<31), silent("\x00\x08\x0a\x00\x00\x00\x05\x00\x00\x00\x06\x05")},
		{nothing, blocked(1, 2), silent("\x00\x05\x0a\x00\x00\x00\x01\x00\x00\x00\x02\x08\x02")},
		{blocked(7, 9, 1<<32-1, 1), nothing, nothing},
		{silent("\x1e\x0c\x08\x0a\x05\x0a\x01\x02\x03\x04\x05\x06"), timed(3, 4), silent("\x1e\x02")},
		{silent("\xff\x03\x05"), nothing, scale(15), nothing},
		{scale(255), nothing},
		{mss(1460), scale(7), sack(), timed(5, 6), blocked(1, 2, 3, 4), nothing, nothing, nothing},
		{silent("\x0a\x03\x02"), timed(0xfffefdfc, 0xfbfaf9f8), nothing, blocked(0xfffefdfc, 0xfbfaf9f8)},
		{blocked(1<<32-1, 1<<31, 1<<31, 1<<32-1, 0, 0, 1, 1), silent("\x00\x05\x0a\x01\x01\x01")},
	}
}

// shifts are of all kinds: of one number each, next to 2^32, of all, of none.
func shifts() []api.Shift {
	src, dst := api.Addr{IP: 0x01020304, Port: 0x0506}, api.Addr{IP: 0x0708090a, Port: 0x0b0c}
	l := []api.Shift{
		{},
		{Src: src, Dst: dst},
		{Src: api.Addr{IP: 1<<32 - 1, Port: 65535}, Dst: api.Addr{IP: 1<<32 - 1, Port: 65535}, Seq: 1<<32 - 1, Ack: 1<<32 - 1, Val: 1<<32 - 1, Echo: 1<<32 - 1, Up: 14},
		{Src: src, Dst: dst, Seq: 10, Ack: 20, Val: 30, Echo: 40, Up: 3, Down: 1},
		{Src: src, Dst: dst, Up: 14}, {Src: src, Dst: dst, Down: 14}, {Src: src, Dst: dst, Up: 15, Down: 15}, {Src: src, Dst: dst, Up: -1, Down: 7}, {Src: src, Dst: dst, Up: 7, Down: -1}, {Src: src, Dst: dst, Up: 1, Down: 2},
	}
	for _, n := range []uint32{1, 2, 0xffff, 0x10000, 1<<31 - 1, 1 << 31, 1<<32 - 2, 1<<32 - 1} {
		l = append(l, api.Shift{Src: src, Dst: dst, Seq: n}, api.Shift{Src: src, Dst: dst, Ack: n}, api.Shift{Src: src, Dst: dst, Val: n}, api.Shift{Src: src, Dst: dst, Echo: n})
	}
	next := jumping(82)
	for range 10 {
		l = append(l, api.Shift{Src: api.Addr{IP: next(), Port: uint16(next())}, Dst: api.Addr{IP: next(), Port: uint16(next())}, Seq: next(), Ack: next(), Val: next(), Echo: next(), Up: int(next() >> 28), Down: int(next() >> 28)})
	}
	return l
}

// datas are of none, of some, of one byte fewer than may be, and of all that may be.
func datas() []string {
	return []string{"", "a", "\x00", "hello", strings.Repeat("\xff", 64), strings.Repeat("d", 1459), strings.Repeat("data", 365)}
}

// sample is a segment that may be, the options' parts, and its packet.
type sample struct {
	s    api.Seg
	opts parts
	p    raw
}

// samples are of all flags that may be, with options of all kinds, data, and numbers that jump about or are next to 2^32.
func samples() []sample {
	var l []sample
	next := jumping(8)
	numbers := []func() uint32{next, next, func() uint32 { return 0 }, func() uint32 { return 1<<32 - 1 }, func() uint32 { return 1 }}
	for i, flags := range flagsThatMay {
		for j, opts := range usual() {
			for k, data := range datas() {
				n := numbers[(i+j+k)%len(numbers)]
				s := api.Seg{Src: api.Addr{IP: n(), Port: uint16(n())}, Dst: api.Addr{IP: n(), Port: uint16(n())}, Seq: n(), Ack: n(), Flags: flags, Window: uint16(n()), Opts: opts.opts(), Data: data}
				l = append(l, sample{s, opts, own(s, opts.bytes(api.Shift{}))})
			}
		}
	}
	return l
}

// equal tells it field by field, apart from Same.
func equal(a, b api.Seg) bool {
	x, y := a.Opts, b.Opts
	if len(x.Blocks) != len(y.Blocks) {
		return false
	}
	for i := range x.Blocks {
		if x.Blocks[i] != y.Blocks[i] {
			return false
		}
	}
	return a.Src.IP == b.Src.IP && a.Src.Port == b.Src.Port && a.Dst.IP == b.Dst.IP && a.Dst.Port == b.Dst.Port && a.Seq == b.Seq && a.Ack == b.Ack && a.Flags == b.Flags && a.Window == b.Window && a.Data == b.Data &&
		x.MSS == y.MSS && x.Scale == y.Scale && x.Sack == y.Sack && x.Time == y.Time && x.Val == y.Val && x.Echo == y.Echo
}

// brief is s with no more than the first data of it, to be told.
func brief(s api.Seg) api.Seg {
	s.Data = s.Data[:min(len(s.Data), 20)]
	return s
}

// decoded tells that text is read as s.
func decoded(t *testing.T, text string, s api.Seg) {
	t.Helper()
	if x, e := Decode(text); !equal(x, s) || e != api.OK {
		t.Errorf("Decode(%.80x), of %d bytes, is %v, %v, not %v", text, len(text), brief(x), e, brief(s))
	}
}

// told tells that text is told to be e, by Decode and by Rewrite, and nothing else of it.
func told(t *testing.T, text string, e api.Errno) {
	t.Helper()
	if s, got := Decode(text); got != e || !equal(s, api.Seg{}) {
		t.Errorf("Decode(%.80x), of %d bytes, is %v, %v, not %v", text, len(text), brief(s), got, e)
	}
	if s, got := Rewrite(text, api.Shift{Seq: 1, Ack: 2}); got != e || s != "" {
		t.Errorf("Rewrite(%.80x), of %d bytes, is %.80x, %v, not %v", text, len(text), s, got, e)
	}
}

// encoded tells that s may be, what its packet is, and that it is read.
func encoded(t *testing.T, s api.Seg, want string) {
	t.Helper()
	if text, e := Encode(s); text != want || e != api.OK || !May(s) {
		t.Errorf("%v is %.80x, %v, not %.80x; it may be: %v", brief(s), text, e, want, May(s))
	}
	decoded(t, want, s)
}

// refused tells that s may not be, and has no packet.
func refused(t *testing.T, s api.Seg) {
	t.Helper()
	if text, e := Encode(s); text != "" || e != api.ErrArg || May(s) {
		t.Errorf("%v is %.80x, %v; it may be: %v", brief(s), text, e, May(s))
	}
}

// rewritten tells what p is, rewritten by x, which is then a packet of those options.
func rewritten(t *testing.T, p raw, opts parts, x api.Shift) {
	t.Helper()
	was, want := p.bytes(), p.turned(x, opts.bytes(x)).bytes()
	if text, e := Rewrite(was, x); text != want || e != api.OK {
		t.Errorf("Rewrite(%.80x, %v), of %d bytes, is %.80x, %v, not %.80x", was, x, len(was), text, e, want)
	}
}

// plain is an ordinary segment.
func plain() api.Seg {
	return api.Seg{Src: api.Addr{IP: 0x0a000001, Port: 4000}, Dst: api.Addr{IP: 0x0a000002, Port: 80}, Seq: 7, Ack: 9, Flags: 24, Window: 100, Opts: api.Opts{Scale: -1}, Data: "hello"}
}

// syn is one that asks, and synPacket its packet.
func syn() api.Seg {
	return api.Seg{Src: api.Addr{IP: 0x0a000001, Port: 1}, Dst: api.Addr{IP: 0x0a000002, Port: 2}, Seq: 3, Flags: api.FlagSYN, Window: 4, Opts: api.Opts{Scale: -1}}
}

const synPacket = "\x45\x00\x00\x28\x00\x00\x40\x00\x40\x06\x26\xce\x0a\x00\x00\x01\x0a\x00\x00\x02" +
	"\x00\x01\x00\x02\x00\x00\x00\x03\x00\x00\x00\x00\x50\x02\x00\x04\x9b\xd6\x00\x00"

// TestExamples: the chapter's.
func TestExamples(t *testing.T) {
	encoded(t, syn(), synPacket)
	if s, e := Decode(synPacket); Next(s) != s.Seq+1 || s.Seq != 3 || e != api.OK {
		t.Errorf("Next is %d, %v", Next(s), e)
	}
	told(t, with(synPacket, 30, "\x01"), api.ErrSum)
}

// TestEncode (P8.1): packets that are written out.
func TestEncode(t *testing.T) {
	s := plain()
	encoded(t, s, "\x45\x00\x00\x2d\x00\x00\x40\x00\x40\x06\x26\xc9\x0a\x00\x00\x01\x0a\x00\x00\x02"+
		"\x0f\xa0\x00\x50\x00\x00\x00\x07\x00\x00\x00\x09\x50\x18\x00\x64\x47\x8f\x00\x00hello")
	s.Opts = api.Opts{MSS: 1460, Scale: 7, Sack: true, Time: true, Val: 0x01020304, Echo: 0x05060708}
	s.Data = ""
	encoded(t, s, "\x45\x00\x00\x40\x00\x00\x40\x00\x40\x06\x26\xb6\x0a\x00\x00\x01\x0a\x00\x00\x02"+
		"\x0f\xa0\x00\x50\x00\x00\x00\x07\x00\x00\x00\x09\xb0\x18\x00\x64\x01\x6a\x00\x00\x02\x04\x05\xb4\x01\x03\x03\x07\x01\x01\x04\x02\x01\x01\x08\x0a\x01\x02\x03\x04\x05\x06\x07\x08")
}

// TestEncodeAll (P8.1, P8.2, P8.4): the packets of all samples, and what was written is read.
func TestEncodeAll(t *testing.T) {
	for _, x := range samples() {
		encoded(t, x.s, x.p.bytes())
	}
}

// TestFlags (P8.1, P8.2): all that there are. No two of FIN, SYN, RST, no URG; the two highest bits are told by the segment's head.
func TestFlags(t *testing.T) {
	for f := range 256 {
		may := false
		for _, x := range flagsThatMay {
			may = may || int(x) == f
		}
		s := plain()
		s.Flags = byte(f)
		text := own(s, "").bytes()
		switch {
		case may:
			encoded(t, s, text)
		case f < 64:
			refused(t, s)
			told(t, text, api.ErrFlags)
		default:
			refused(t, s)
			told(t, text, api.ErrReserved)
		}
	}
}

// TestOptsThatMayNot (P8.1): a segment whose options may not be may not be.
func TestOptsThatMayNot(t *testing.T) {
	b := make([]api.Block, 6)
	for _, o := range []api.Opts{
		{Scale: -2}, {Scale: 15}, {Scale: 99}, {Scale: math.MinInt}, {Scale: math.MaxInt},
		{Scale: -1, Blocks: b[:5]}, {Scale: -1, Blocks: b},
		{Scale: -1, Val: 1}, {Scale: -1, Echo: 1}, {Scale: -1, Val: 1 << 31, Echo: 1 << 31},
		{Scale: -1, Time: true, Blocks: b[:4]}, {MSS: 1, Scale: 0, Blocks: b[:4]}, {MSS: 1, Scale: 0, Sack: true, Time: true, Blocks: b[:2]},
	} {
		for _, data := range []string{"", "hello", strings.Repeat("d", 1461)} {
			for _, flags := range []byte{0, 16, 3} {
				s := plain()
				s.Opts, s.Data, s.Flags = o, data, flags
				refused(t, s)
			}
		}
	}
	s := plain()
	s.Opts = api.Opts{}
	encoded(t, s, own(s, "\x01\x03\x03\x00").bytes())
	encoded(t, api.Seg{}, own(api.Seg{}, "\x01\x03\x03\x00").bytes())
}

// TestMaxData (P8.1, P8.2): MaxData bytes may be, one more may not.
func TestMaxData(t *testing.T) {
	for _, n := range []int{0, 1, 2, 1458, 1459, 1460, 1461, 1462, 1463, 2920, 4096, 65535 - 40 - 40} {
		for _, opts := range usual() {
			s := plain()
			s.Opts, s.Data = opts.opts(), strings.Repeat("\xfe", n)
			text := own(s, opts.bytes(api.Shift{})).bytes()
			if n <= 1460 {
				encoded(t, s, text)
				continue
			}
			refused(t, s)
			told(t, text, api.ErrLong)
		}
	}
	for _, n := range []int{65535, 65536, 65536 + 5, 65536 + 1460, 1 << 20} {
		s := plain()
		s.Data = strings.Repeat("d", n)
		refused(t, s)
	}
}

// TestNext (P8.1): behind SYN, FIN, data, next to 2^32; of segments that may not be, too.
func TestNext(t *testing.T) {
	for _, x := range []struct {
		seq   uint32
		flags byte
		data  int
		want  uint32
	}{
		{5, 0, 0, 5}, {5, api.FlagSYN, 0, 6}, {5, api.FlagFIN, 0, 6}, {5, api.FlagRST, 0, 5}, {5, api.FlagPSH, 0, 5}, {5, api.FlagACK, 0, 5},
		{5, api.FlagACK | api.FlagPSH, 7, 12}, {5, api.FlagFIN | api.FlagACK, 7, 13}, {5, api.FlagSYN, 7, 13}, {5, api.FlagRST, 7, 12}, {5, 0, 1460, 1465},
		{1<<32 - 1, 0, 0, 1<<32 - 1}, {1<<32 - 1, api.FlagSYN, 0, 0}, {1<<32 - 1, api.FlagFIN, 0, 0}, {1<<32 - 1, 0, 1, 0}, {1<<32 - 1, api.FlagFIN, 1, 1},
		{1<<32 - 2, api.FlagFIN, 1, 0}, {1<<32 - 3, api.FlagSYN | api.FlagACK, 1, 1<<32 - 1}, {1<<32 - 5, api.FlagFIN, 5, 1}, {1<<31 - 1, api.FlagSYN, 0, 1 << 31},
		{0, 0, 0, 0}, {0, api.FlagFIN, 1460, 1461},
		{5, api.FlagSYN | api.FlagFIN, 0, 7}, {1<<32 - 1, api.FlagSYN | api.FlagFIN, 0, 1}, {5, 255, 2, 9}, {5, 252, 2, 7}, {5, api.FlagFIN, 1 << 17, 6 + 1<<17},
	} {
		s := plain()
		s.Seq, s.Flags, s.Data = x.seq, x.flags, strings.Repeat("x", x.data)
		if n := Next(s); n != x.want {
			t.Errorf("behind %d, with flags %x and %d bytes, it is %d, not %d", x.seq, x.flags, x.data, n, x.want)
		}
	}
}

// TestSame (P8.1): segments that differ in one part only are not the same; those that may not be are told apart too.
func TestSame(t *testing.T) {
	changes := []func(s *api.Seg){
		func(s *api.Seg) { s.Src.IP++ }, func(s *api.Seg) { s.Src.IP += 1 << 31 }, func(s *api.Seg) { s.Src.Port++ }, func(s *api.Seg) { s.Src.Port += 256 },
		func(s *api.Seg) { s.Dst.IP++ }, func(s *api.Seg) { s.Dst.IP += 1 << 31 }, func(s *api.Seg) { s.Dst.Port++ }, func(s *api.Seg) { s.Dst.Port += 256 },
		func(s *api.Seg) { s.Seq++ }, func(s *api.Seg) { s.Seq += 1 << 31 }, func(s *api.Seg) { s.Ack++ }, func(s *api.Seg) { s.Ack += 1 << 31 },
		func(s *api.Seg) { s.Flags++ }, func(s *api.Seg) { s.Flags ^= 32 }, func(s *api.Seg) { s.Flags ^= 128 },
		func(s *api.Seg) { s.Window++ }, func(s *api.Seg) { s.Window += 256 },
		func(s *api.Seg) { s.Opts.MSS++ }, func(s *api.Seg) { s.Opts.Scale++ }, func(s *api.Seg) { s.Opts.Sack = !s.Opts.Sack }, func(s *api.Seg) { s.Opts.Time = !s.Opts.Time },
		func(s *api.Seg) { s.Opts.Val++ }, func(s *api.Seg) { s.Opts.Echo++ },
		func(s *api.Seg) { s.Opts.Blocks = append([]api.Block{{}}, s.Opts.Blocks...) },
		func(s *api.Seg) { s.Opts.Blocks = []api.Block{{From: 1, To: 4}} }, func(s *api.Seg) { s.Opts.Blocks = []api.Block{{From: 2, To: 3}} },
		func(s *api.Seg) { s.Data += "\x00" }, func(s *api.Seg) { s.Data = "\x00" + s.Data }, func(s *api.Seg) { s.Data = s.Data[:max(len(s.Data)-1, 0)] + "z" },
		func(s *api.Seg) { s.Seq, s.Ack = s.Ack+5, s.Seq },
	}
	full := plain()
	full.Opts = api.Opts{MSS: 1, Scale: 2, Sack: true, Time: true, Val: 3, Echo: 4, Blocks: []api.Block{{From: 1, To: 3}}}
	wrong := full
	wrong.Flags, wrong.Opts.Scale, wrong.Opts.Blocks, wrong.Data = 255, 99, make([]api.Block, 9), strings.Repeat("d", 5000)
	for _, s := range []api.Seg{{}, plain(), syn(), full, wrong} {
		x := s
		x.Opts.Blocks = append([]api.Block{}, s.Opts.Blocks...)
		x.Data = strings.Clone(s.Data)
		if !Same(s, s) || !Same(s, x) || !Same(x, s) {
			t.Errorf("%v is not what it is", brief(s))
		}
		for i, change := range changes {
			y := s
			change(&y)
			if Same(s, y) || Same(y, s) {
				t.Errorf("%d: %v is %v", i, brief(s), brief(y))
			}
		}
	}
	a, b := plain(), plain()
	a.Src, a.Dst = a.Dst, a.Src
	if Same(a, b) || Same(b, a) {
		t.Error("there is back")
	}
}

// TestDecode (P8.2): what else the heads have is not told.
func TestDecode(t *testing.T) {
	for i, opts := range append(usual(), foreign()...) {
		s := plain()
		s.Opts = opts.opts()
		for _, change := range []func(r *raw){
			func(r *raw) {}, func(r *raw) { r.ttl = 0 }, func(r *raw) { r.ttl = 255 }, func(r *raw) { r.tos = 0xb8 }, func(r *raw) { r.id = 0xffff }, func(r *raw) { r.fragment = 0 }, func(r *raw) { r.urgent = 1 }, func(r *raw) { r.urgent = 0xffff },
			func(r *raw) { r.ttl, r.tos, r.id, r.fragment, r.urgent = 1, 255, 0x0102, 0, 0x0304 },
		} {
			r := own(s, opts.bytes(api.Shift{}))
			change(&r)
			decoded(t, r.bytes(), s)
			if len(r.opts)%4 != 0 || len(r.opts) > 40 {
				t.Fatalf("options %d are not whole", i)
			}
		}
	}
}

// faults are what may be wrong with a packet, in the order in which it is told.
func faults() []struct {
	e    api.Errno
	make []func(r *raw)
} {
	return []struct {
		e    api.Errno
		make []func(r *raw)
	}{
		{api.ErrShort, []func(r *raw){func(r *raw) { r.size = 19 }, func(r *raw) { r.size = 1 }}},
		{api.ErrVersion, []func(r *raw){func(r *raw) { r.first ^= 0x10 }, func(r *raw) { r.first ^= 0x80 }}},
		{api.ErrHead, []func(r *raw){func(r *raw) { r.first ^= 0x03 }, func(r *raw) { r.first ^= 0x01 }}},
		{api.ErrLength, []func(r *raw){func(r *raw) { r.longer = 1 }, func(r *raw) { r.longer = 0xffff }, func(r *raw) { r.longer = 256 }}},
		{api.ErrSum, []func(r *raw){func(r *raw) { r.headOff = 1 }, func(r *raw) { r.headOff = 0x100 }}},
		{api.ErrFragment, []func(r *raw){func(r *raw) { r.fragment |= 0x2000 }, func(r *raw) { r.fragment |= 0x8000 }, func(r *raw) { r.fragment |= 1 }}},
		{api.ErrProto, []func(r *raw){func(r *raw) { r.proto = 17 }, func(r *raw) { r.proto = 0 }, func(r *raw) { r.proto = 7 }}},
		{api.ErrShort, []func(r *raw){func(r *raw) { r.load = 19 }, func(r *raw) { r.load = 1 }}},
		{api.ErrSum, []func(r *raw){func(r *raw) { r.off = 1 }, func(r *raw) { r.off = 0x100 }}},
		{api.ErrOffset, []func(r *raw){func(r *raw) { r.offset = 0xf0 - byte(len(r.opts)/4)<<4 }, func(r *raw) { r.data, r.offset = r.data[:1], r.offset+0x10 }}},
		{api.ErrReserved, []func(r *raw){func(r *raw) { r.offset |= 1 }, func(r *raw) { r.flags |= 64 }, func(r *raw) { r.flags |= 128 }}},
		{api.ErrOption, []func(r *raw){func(r *raw) { r.opts = "\x02\x03\x05\xb4" }, func(r *raw) { r.opts = "\x01\x01\x01\x05" }, func(r *raw) { r.opts = "\x04\x02\x04\x02" }}},
		{api.ErrFlags, []func(r *raw){func(r *raw) { r.flags |= api.FlagURG }, func(r *raw) { r.flags |= api.FlagFIN | api.FlagSYN }, func(r *raw) { r.flags |= api.FlagSYN | api.FlagRST }, func(r *raw) { r.flags |= api.FlagFIN | api.FlagRST }}},
		{api.ErrLong, []func(r *raw){func(r *raw) { r.data = strings.Repeat("d", 1461) }, func(r *raw) { r.data = strings.Repeat("d", 60000) }}},
	}
}

// TestErrors (P8.2): each error by itself, and each two at once, of which the first one is told.
func TestErrors(t *testing.T) {
	all := faults()
	for i, x := range all {
		for _, change := range x.make {
			for _, y := range all[i+1:] {
				for _, other := range y.make {
					r := own(plain(), "\x02\x04\x05\xb4")
					other(&r)
					change(&r)
					told(t, r.bytes(), x.e)
				}
			}
			r := own(plain(), "\x02\x04\x05\xb4")
			change(&r)
			told(t, r.bytes(), x.e)
		}
	}
	for _, s := range []string{"", "\x45", strings.Repeat("\x00", 19), strings.Repeat("\xff", 19)} {
		told(t, s, api.ErrShort)
	}
	told(t, strings.Repeat("\x00", 40), api.ErrVersion)
	told(t, strings.Repeat("\xff", 40), api.ErrVersion)
	long := own(plain(), "")
	long.data = strings.Repeat("d", 65535-40)
	told(t, long.bytes(), api.ErrLong)
}

// TestBits (P8.2, P8.3): a packet of which one bit is turned is not read, and not rewritten.
func TestBits(t *testing.T) {
	for i, x := range samples() {
		text := x.p.bytes()
		if i%29 != 0 || len(text) > 200 {
			continue
		}
		for bit := range 8 * len(text) {
			b := []byte(text)
			b[bit/8] ^= 128 >> (bit % 8)
			e := api.ErrSum
			switch {
			case bit < 4:
				e = api.ErrVersion
			case bit < 8:
				e = api.ErrHead
			case bit >= 16 && bit < 32:
				e = api.ErrLength
			}
			told(t, string(b), e)
		}
		told(t, text[:len(text)-1], api.ErrLength)
		told(t, text+"\x00", api.ErrLength)
	}
}

// turnedTold is s turned by x, told part by part.
func turnedTold(s api.Seg, x api.Shift) api.Seg {
	ack := s.Ack
	if s.Flags&16 != 0 {
		ack += x.Ack
	}
	o := s.Opts
	o.Blocks = nil
	for _, b := range s.Opts.Blocks {
		o.Blocks = append(o.Blocks, api.Block{From: b.From + x.Ack, To: b.To + x.Ack})
	}
	if o.Time {
		o.Val, o.Echo = o.Val+x.Val, o.Echo+x.Echo
	}
	return api.Seg{Src: x.Src, Dst: x.Dst, Seq: s.Seq + x.Seq, Ack: ack, Flags: s.Flags, Window: windowTold(s.Window, x.Up, x.Down), Opts: o, Data: s.Data}
}

// TestTurned (P8.3): each number by itself, next to 2^32; all that is not told stays as it was.
func TestTurned(t *testing.T) {
	src, dst := api.Addr{IP: 1<<32 - 1, Port: 65535}, api.Addr{IP: 1, Port: 2}
	for _, x := range []struct {
		was   api.Seg
		shift api.Shift
		want  api.Seg
	}{
		{api.Seg{Seq: 1<<32 - 1, Ack: 5, Flags: 16}, api.Shift{Src: src, Dst: dst, Seq: 1}, api.Seg{Src: src, Dst: dst, Seq: 0, Ack: 5, Flags: 16}},
		{api.Seg{Src: dst, Dst: src, Seq: 0, Ack: 5, Flags: 16}, api.Shift{Src: src, Dst: dst, Seq: 1<<32 - 1}, api.Seg{Src: src, Dst: dst, Seq: 1<<32 - 1, Ack: 5, Flags: 16}},
		{api.Seg{Src: dst, Dst: src, Seq: 1 << 31, Ack: 5, Flags: 18}, api.Shift{Seq: 1 << 31}, api.Seg{Seq: 0, Ack: 5, Flags: 18}},
		{api.Seg{Seq: 5, Ack: 1<<32 - 1, Flags: 16}, api.Shift{Ack: 1}, api.Seg{Seq: 5, Ack: 0, Flags: 16}},
		{api.Seg{Seq: 5, Ack: 0, Flags: 25}, api.Shift{Ack: 1<<32 - 1}, api.Seg{Seq: 5, Ack: 1<<32 - 1, Flags: 25}},
		{api.Seg{Seq: 5, Ack: 7, Flags: 2}, api.Shift{Ack: 1<<32 - 1}, api.Seg{Seq: 5, Ack: 7, Flags: 2}},
		{api.Seg{Seq: 5, Ack: 0, Flags: 15}, api.Shift{Ack: 9}, api.Seg{Seq: 5, Ack: 0, Flags: 15}},
		{api.Seg{Ack: 7, Opts: api.Opts{Blocks: []api.Block{{From: 1<<32 - 1, To: 3}, {From: 5, To: 1<<32 - 2}}}}, api.Shift{Seq: 100, Ack: 2, Val: 200, Echo: 300}, api.Seg{Seq: 100, Ack: 7, Opts: api.Opts{Blocks: []api.Block{{From: 1, To: 5}, {From: 7, To: 0}}}}},
		{api.Seg{Ack: 7, Flags: 16, Opts: api.Opts{Blocks: []api.Block{{From: 1, To: 0}}}}, api.Shift{Ack: 1<<32 - 1}, api.Seg{Ack: 6, Flags: 16, Opts: api.Opts{Blocks: []api.Block{{From: 0, To: 1<<32 - 1}}}}},
		{api.Seg{Opts: api.Opts{Time: true, Val: 1<<32 - 1, Echo: 5}}, api.Shift{Val: 1}, api.Seg{Opts: api.Opts{Time: true, Val: 0, Echo: 5}}},
		{api.Seg{Opts: api.Opts{Time: true, Val: 5, Echo: 1<<32 - 1}}, api.Shift{Echo: 1}, api.Seg{Opts: api.Opts{Time: true, Val: 5, Echo: 0}}},
		{api.Seg{Opts: api.Opts{Time: true, Val: 0, Echo: 0}}, api.Shift{Val: 1<<32 - 1, Echo: 1<<32 - 2}, api.Seg{Opts: api.Opts{Time: true, Val: 1<<32 - 1, Echo: 1<<32 - 2}}},
		{api.Seg{Opts: api.Opts{Scale: -1}}, api.Shift{Val: 1, Echo: 2}, api.Seg{Opts: api.Opts{Scale: -1}}},
		{api.Seg{Opts: api.Opts{Scale: -1, Val: 3, Echo: 4}}, api.Shift{Val: 1, Echo: 2}, api.Seg{Opts: api.Opts{Scale: -1, Val: 3, Echo: 4}}},
		{api.Seg{Flags: 2, Window: 100, Opts: api.Opts{MSS: 1460, Scale: 7, Sack: true}}, api.Shift{Seq: 1, Ack: 2, Val: 3, Echo: 4, Up: 2, Down: 1}, api.Seg{Seq: 1, Flags: 2, Window: 200, Opts: api.Opts{MSS: 1460, Scale: 7, Sack: true}}},
		{api.Seg{Flags: 4, Window: 65535, Data: "hello"}, api.Shift{Down: 4}, api.Seg{Flags: 4, Window: 4095, Data: "hello"}},
	} {
		if s := Turned(x.was, x.shift); !equal(s, x.want) {
			t.Errorf("%v, turned by %v, is %v, not %v", x.was, x.shift, s, x.want)
		}
	}
}

// TestWindow (P8.3): by all scales that may be, and by such as count as the nearer end.
func TestWindow(t *testing.T) {
	for _, x := range []struct {
		w        uint16
		up, down int
		want     uint16
	}{
		{100, 0, 0, 100}, {100, 3, 1, 400}, {100, 1, 3, 25}, {7, 0, 1, 3}, {1, 0, 1, 0}, {3, 1, 2, 1}, {65535, 0, 0, 65535}, {0, 14, 0, 0},
		{65535, 1, 0, 65535}, {32768, 1, 0, 65535}, {32767, 1, 0, 65534}, {65535, 14, 0, 65535}, {4, 14, 0, 65535}, {3, 14, 0, 49152}, {65535, 14, 14, 65535}, {65535, 1, 1, 65535}, {65535, 1, 2, 32767}, {65535, 14, 13, 65535}, {65535, 13, 14, 32767}, {65535, 0, 14, 3}, {16383, 0, 14, 0}, {16384, 0, 14, 1},
		{1, -1, 0, 1}, {1, 15, 0, 16384}, {1, 14, 0, 16384}, {65535, 0, 15, 3}, {2, 0, -1, 2}, {1, 15, 15, 1}, {1, 16, 14, 1}, {3, 1, -1, 6}, {3, -1, 1, 1}, {9, -5, -5, 9},
		{5, 32, 14, 5}, {5, 64, 64, 5}, {1, math.MaxInt, 0, 16384}, {5, math.MinInt, 0, 5}, {5, 1, math.MinInt, 10}, {32768, 0, math.MaxInt, 2}, {5, 256, 0, 65535}, {5, 1 << 32, 14, 5},
	} {
		s := Turned(api.Seg{Window: x.w}, api.Shift{Up: x.up, Down: x.down})
		if s.Window != x.want {
			t.Errorf("%d, turned by %d and %d, is %d, not %d", x.w, x.up, x.down, s.Window, x.want)
		}
	}
	for up := -3; up < 18; up++ {
		for down := -3; down < 18; down++ {
			for w := 0; w < 65536; w += 97 {
				for _, n := range []uint16{uint16(w), uint16(65535 - w)} {
					if s := Turned(api.Seg{Window: n}, api.Shift{Up: up, Down: down}); s.Window != windowTold(n, up, down) {
						t.Errorf("%d, turned by %d and %d, is %d", n, up, down, s.Window)
					}
				}
			}
		}
	}
}

// TestTurnedAll (P8.3): all samples by all shifts; what may be may be when it is turned.
func TestTurnedAll(t *testing.T) {
	for _, x := range samples() {
		for _, by := range shifts() {
			s := Turned(x.s, by)
			if !equal(s, turnedTold(x.s, by)) || !May(s) {
				t.Errorf("%v, turned by %v, is %v", brief(x.s), by, brief(s))
			}
		}
	}
}

// TestTurnedThatMayNot (P8.3): what may not be is turned too.
func TestTurnedThatMayNot(t *testing.T) {
	blocks := make([]api.Block, 9)
	for i := range blocks {
		blocks[i] = api.Block{From: uint32(i), To: -uint32(i)}
	}
	for _, s := range []api.Seg{
		{Flags: 255, Opts: api.Opts{Scale: 99, Time: true, Val: 1, Echo: 2, Blocks: blocks}, Data: strings.Repeat("d", 1500)},
		{Flags: 239, Ack: 5, Opts: api.Opts{Scale: -9, Val: 1, Echo: 2, Blocks: blocks[:5]}, Data: strings.Repeat("d", 70000)},
	} {
		for _, by := range shifts() {
			if x := Turned(s, by); !equal(x, turnedTold(s, by)) {
				t.Errorf("%v, turned by %v, is %v", brief(s), by, brief(x))
			}
		}
	}
}

// TestRewriteOwn (P8.3, P8.4): a segment's own packet, rewritten, is that of the segment, turned, byte by byte.
func TestRewriteOwn(t *testing.T) {
	for _, x := range samples() {
		was, e := Encode(x.s)
		if e != api.OK {
			t.Fatal(e)
		}
		for _, by := range shifts() {
			rewritten(t, x.p, x.opts, by)
			want, e := Encode(Turned(x.s, by))
			if e != api.OK {
				t.Fatal(e)
			}
			if text, e := Rewrite(was, by); text != want || e != api.OK {
				t.Errorf("Rewrite(%.80x, %v) is %.80x, %v, not %.80x", was, by, text, e, want)
			}
		}
	}
}

// others are packets with heads and options of their own.
func others() []sample {
	var l []sample
	next := jumping(83)
	for i, opts := range append(foreign(), usual()...) {
		for j, data := range datas() {
			flags := flagsThatMay[(i*5+j)%len(flagsThatMay)]
			s := api.Seg{Src: api.Addr{IP: next(), Port: uint16(next())}, Dst: api.Addr{IP: next(), Port: uint16(next())}, Seq: next(), Ack: next(), Flags: flags, Window: uint16(next()), Opts: opts.opts(), Data: data}
			p := own(s, opts.bytes(api.Shift{}))
			p.ttl, p.tos, p.id, p.urgent = byte(next()), byte(next()), uint16(next()), uint16(next())
			if j%2 == 0 {
				p.fragment = 0
			}
			l = append(l, sample{s, opts, p})
		}
	}
	return l
}

// TestRewriteOthers (P8.3, P8.4): all else stands as it was; it is read as what was there, turned.
func TestRewriteOthers(t *testing.T) {
	for _, x := range others() {
		decoded(t, x.p.bytes(), x.s)
		for _, by := range shifts() {
			rewritten(t, x.p, x.opts, by)
			text, _ := Rewrite(x.p.bytes(), by)
			decoded(t, text, turnedTold(x.s, by))
		}
	}
}

// TestRewriteBack (P8.3): by nothing, all stands as it was; there and back, it is what it was.
func TestRewriteBack(t *testing.T) {
	for _, x := range append(others(), samples()...) {
		was := x.p.bytes()
		same := api.Shift{Src: x.s.Src, Dst: x.s.Dst}
		if text, e := Rewrite(was, same); text != was || e != api.OK {
			t.Errorf("Rewrite(%.80x) by nothing is %.80x, %v", was, text, e)
		}
		for _, by := range shifts() {
			by.Up, by.Down = 0, 0
			there, e := Rewrite(was, by)
			if e != api.OK {
				t.Fatal(e)
			}
			back := api.Shift{Src: x.s.Src, Dst: x.s.Dst, Seq: -by.Seq, Ack: -by.Ack, Val: -by.Val, Echo: -by.Echo}
			if text, e := Rewrite(there, back); text != was || e != api.OK {
				t.Errorf("%.80x, by %v and back, is %.80x, %v", was, by, text, e)
			}
		}
	}
}

// onto is the sum by ones' complement of two words.
func onto(a, b uint16) uint16 {
	n := int(a) + int(b)
	if n > 65535 {
		n -= 65535
	}
	return uint16(n)
}

// word is the one that stands in s at that place.
func word(s string, place int) uint16 {
	return binary.BigEndian.Uint16([]byte(s[place:]))
}

// atFull is r with another ID and another Urgent, by which both checksums would be 0: they stand as 65,535, which is as right.
func atFull(t *testing.T, r raw) (raw, string) {
	t.Helper()
	text := r.bytes()
	r.id, r.urgent = onto(r.id, word(text, 10)), onto(r.urgent, word(text, 36))
	text = r.bytes()
	if word(text, 10) != 0 || word(text, 36) != 0 {
		t.Fatalf("the checksums of %.80x are not 0", text)
	}
	return r, with(with(text, 10, "\xff\xff"), 36, "\xff\xff")
}

// turnedAlong is the checksum that stood in was at that place, turned along by the words that stand at others, in their order, told as the chapter of layer 3 tells it.
func turnedAlong(was, now string, place int, others ...int) string {
	sum := int(word(was, place))
	for _, at := range others {
		n := 65535 - sum + 65535 - int(word(was, at)) + int(word(now, at))
		for n > 65535 {
			n = n%65536 + n/65536
		}
		sum = 65535 - n
	}
	return two(uint16(sum))
}

// TestRewriteFull (P8.3): checksums that stand as 65,535 are turned along by each word, also by those that stay the same.
func TestRewriteFull(t *testing.T) {
	for _, x := range append(others(), samples()...) {
		full, was := atFull(t, x.p)
		decoded(t, was, x.s)
		for _, by := range append(shifts(), api.Shift{Src: x.s.Src, Dst: x.s.Dst}) {
			now := full.turned(by, x.opts.bytes(by)).bytes()
			head, segment := []int{12, 14, 16, 18}, []int{12, 14, 16, 18, 20, 22, 24, 26, 28, 30, 34}
			for at := 40; at < 40+len(full.opts); at += 2 {
				segment = append(segment, at)
			}
			want := with(with(now, 10, turnedAlong(was, now, 10, head...)), 36, turnedAlong(was, now, 36, segment...))
			if text, e := Rewrite(was, by); text != want || e != api.OK {
				t.Errorf("Rewrite(%.80x, %v) is %.80x, %v, not %.80x", was, by, text, e, want)
			}
			decoded(t, want, turnedTold(x.s, by))
		}
	}
}

// TestRewriteFullNothing (P8.3): by nothing, a checksum of 65,535 becomes 0; where each word was 65,535 and is 0, it stays.
func TestRewriteFullNothing(t *testing.T) {
	s := plain()
	s.Src.IP, s.Dst.IP = 1<<32-1, 1<<32-1
	full, was := atFull(t, own(s, "\x01\x01\x01\x01"))
	if text, e := Rewrite(was, api.Shift{Src: s.Src, Dst: s.Dst}); text != full.bytes() || e != api.OK {
		t.Errorf("by nothing, %x is %x, %v", was, text, e)
	}
	text, e := Rewrite(was, api.Shift{})
	if e != api.OK || word(text, 10) != 65535 || word(text, 36) == 65535 {
		t.Errorf("%x is %x, %v", was, text, e)
	}
	decoded(t, text, turnedTold(s, api.Shift{}))
	s.Src.Port, s.Dst.Port, s.Seq, s.Ack = 65535, 65535, 1<<32-1, 1<<32-1
	_, was = atFull(t, own(s, ""))
	text, e = Rewrite(was, api.Shift{Seq: 1, Ack: 1}) // all but the window are 0 now, which stays the same, and is turned along
	if e != api.OK || word(text, 10) != 65535 || word(text, 36) != 0 || word(text, 34) != word(was, 34) {
		t.Errorf("%x is %x, %v", was, text, e)
	}
}

// TestRewrite (P8.3): packets that are written out.
func TestRewrite(t *testing.T) {
	src, dst := api.Addr{IP: 0xc0a80101, Port: 0x1388}, api.Addr{IP: 0xc0a80102, Port: 0x1f90}
	for _, x := range []struct {
		was string
		by  api.Shift
		now string
	}{
		{synPacket, api.Shift{Src: src, Dst: dst, Seq: 1<<32 - 4, Ack: 9, Val: 9, Echo: 9, Up: 2, Down: 1},
			"\x45\x00\x00\x28\x00\x00\x40\x00\x40\x06\xb7\x7c\xc0\xa8\x01\x01\xc0\xa8\x01\x02" +
				"\x13\x88\x1f\x90\xff\xff\xff\xff\x00\x00\x00\x00\x50\x02\x00\x08\xf9\x6e\x00\x00"},
		{"\x45\xb8\x00\x45\x12\x34\x00\x00\x03\x06\x90\xc5\x0a\x00\x00\x01\x0a\x00\x00\x02" +
			"\x0f\xa0\x00\x50\xff\xff\xff\xf8\xff\xff\xff\xf0\xb0\x18\x12\x34\xc2\xb0\x00\x05\x01\x08\x0a\x00\x00\x00\x05\xff\xff\xff\xfe\x05\x0a\xff\xff\xff\xf0\x00\x00\x00\x01\x00\x08\x0a\x68\x65\x6c\x6c\x6f", api.Shift{Src: src, Dst: dst, Seq: 0x10, Ack: 0x20, Val: 0x30, Echo: 0x40, Down: 3},
			"\x45\xb8\x00\x45\x12\x34\x00\x00\x03\x06\x21\x74\xc0\xa8\x01\x01\xc0\xa8\x01\x02" +
				"\x13\x88\x1f\x90\x00\x00\x00\x08\x00\x00\x00\x10\xb0\x18\x02\x46\x91\xf6\x00\x05\x01\x08\x0a\x00\x00\x00\x35\x00\x00\x00\x3e\x05\x0a\x00\x00\x00\x10\x00\x00\x00\x21\x00\x08\x0a\x68\x65\x6c\x6c\x6f"},
	} {
		if text, e := Rewrite(x.was, x.by); text != x.now || e != api.OK {
			t.Errorf("Rewrite(%x, %v) is %x, %v, not %x", x.was, x.by, text, e, x.now)
		}
	}
}

// TestAny (P8.2, P8.4): packets whose bytes jump about, with right sums: what is read is rewritten, and read as it was, turned; what is not read is not rewritten.
func TestAny(t *testing.T) {
	next := jumping(84)
	all, read := shifts(), 0
	const some = "\x00\x01\x02\x03\x04\x05\x06\x08\x0a\x0f\xff"
	for i := range 50000 {
		opts := make([]byte, next()>>8%11*4)
		for j := range opts {
			opts[j] = some[next()>>8%uint32(len(some))]
		}
		p := own(api.Seg{Seq: next(), Ack: next(), Flags: byte(next() >> 27), Window: uint16(next())}, string(opts))
		p.src, p.dst, p.urgent, p.data = next(), next(), uint16(next()), some[:next()>>8%uint32(len(some))]
		text, by := p.bytes(), all[i%len(all)]
		s, e := Decode(text)
		if e != api.OK {
			told(t, text, e)
			continue
		}
		read++
		now, e := Rewrite(text, by)
		if e != api.OK || len(now) != len(text) {
			t.Errorf("Rewrite(%x, %v) is %x, %v", text, by, now, e)
		}
		decoded(t, now, turnedTold(s, by))
	}
	if read < 1000 {
		t.Errorf("only %d are read", read)
	}
}

// TestAnyBytes (P8.2, P8.3): bytes that jump about are no packets, and none makes a call panic.
func TestAnyBytes(t *testing.T) {
	next := jumping(85)
	for n := range 2000 {
		b := make([]byte, n%120)
		for i := range b {
			b[i] = byte(next() >> 24)
		}
		if len(b) > 3 && n%2 == 0 {
			b[0], b[2], b[3] = 0x45, 0, byte(len(b))
		}
		if s, e := Decode(string(b)); e == api.OK || !equal(s, api.Seg{}) {
			t.Errorf("Decode(%x) is %v, %v", b, s, e)
		}
		if s, e := Rewrite(string(b), api.Shift{}); e == api.OK || s != "" {
			t.Errorf("Rewrite(%x) is %x, %v", b, s, e)
		}
	}
}

// apart tells that two texts, neither of none, are the same, and none is memory of the other one.
func apart(a, b string) bool {
	return a == b && unsafe.StringData(a) != unsafe.StringData(b)
}

// TestOwnMemory (R5): answers are none of an argument's memory, and arguments stay as they are.
func TestOwnMemory(t *testing.T) {
	s := plain()
	s.Opts.Blocks = []api.Block{{From: 1, To: 3}}
	x := Turned(s, api.Shift{Ack: 5})
	if s.Opts.Blocks[0] != (api.Block{From: 1, To: 3}) || x.Opts.Blocks[0] != (api.Block{From: 6, To: 8}) || !apart(x.Data, s.Data) {
		t.Errorf("%v, turned, is %v", s, x)
	}
	x.Opts.Blocks[0].From = 9
	if s.Opts.Blocks[0].From != 1 {
		t.Error("both have one list")
	}
	text, _ := Encode(s)
	if s.Opts.Blocks[0] != (api.Block{From: 1, To: 3}) {
		t.Errorf("Encode made the blocks %v", s.Opts.Blocks)
	}
	if y, e := Rewrite(text, api.Shift{Src: s.Src, Dst: s.Dst}); !apart(y, text) || e != api.OK {
		t.Errorf("%x, rewritten by nothing, is %x, %v", text, y, e)
	}
	a, _ := Decode(text)
	b, _ := Decode(text)
	a.Opts.Blocks[0].From = 9
	if b.Opts.Blocks[0].From != 1 || !apart(a.Data, b.Data) || unsafe.StringData(a.Data) == unsafe.StringData(text[len(text)-len(a.Data):]) {
		t.Error("two answers have one memory, or that of the packet")
	}
}
