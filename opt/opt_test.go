package opt

import (
	"encoding/binary"
	"math"
	"strings"
	"testing"
	"unsafe"

	"transom/api"
)

// jumping hands over numbers that jump about, the same in each run.
func jumping(from uint32) func() uint32 {
	half := func() uint32 {
		from = from*1664525 + 1013904223
		return from >> 16
	}
	return func() uint32 { return half()<<16 | half() }
}

// four are n's bytes.
func four(n uint32) string {
	return string(binary.BigEndian.AppendUint32(nil, n))
}

// blocksOf are n blocks whose numbers all differ.
func blocksOf(n int) []api.Block {
	var l []api.Block
	for i := range uint32(n) {
		l = append(l, api.Block{From: 0x01020304 + i*0x10101010, To: 0xf1e2d3c4 - i*0x01010101})
	}
	return l
}

// written are the bytes of o, told as the chapter tells it.
func written(o api.Opts) string {
	s := ""
	if o.MSS > 0 {
		s += string([]byte{2, 4, byte(o.MSS / 256), byte(o.MSS % 256)})
	}
	if o.Scale >= 0 {
		s += string([]byte{1, 3, 3, byte(o.Scale)})
	}
	if o.Sack {
		s += "\x01\x01\x04\x02"
	}
	if o.Time {
		s += "\x01\x01\x08\x0a" + four(o.Val) + four(o.Echo)
	}
	if len(o.Blocks) > 0 {
		s += "\x01\x01\x05" + string([]byte{byte(2 + 8*len(o.Blocks))})
	}
	for _, x := range o.Blocks {
		s += four(x.From) + four(x.To)
	}
	return s
}

// words are how many words of four bytes the bytes of o are.
func words(o api.Opts) int {
	n := 0
	if o.MSS > 0 {
		n++
	}
	if o.Scale >= 0 {
		n++
	}
	if o.Sack {
		n++
	}
	if o.Time {
		n += 3
	}
	if len(o.Blocks) > 0 {
		n += 1 + 2*len(o.Blocks)
	}
	return n
}

// mixes are options of which each is there or not, with numbers of all kinds, those too that are too many together.
func mixes() []api.Opts {
	var l []api.Opts
	next := jumping(7)
	for _, mss := range []uint16{0, 1, 255, 256, 0x0102, 1460, 0x8000, 65535} {
		for _, scale := range []int{-1, 0, 1, 7, 13, 14} {
			for _, sack := range []bool{false, true} {
				for n := range 5 {
					o := api.Opts{MSS: mss, Scale: scale, Sack: sack, Blocks: blocksOf(n)}
					l = append(l, o)
					for _, v := range [][2]uint32{{0, 0}, {1, 0}, {0, 1}, {0x01020304, 0x05060708}, {1<<32 - 1, 1<<32 - 1}, {1 << 31, 1<<31 - 1}, {next(), next()}} {
						o.Time, o.Val, o.Echo = true, v[0], v[1]
						l = append(l, o)
					}
				}
			}
		}
	}
	for _, x := range []api.Block{{}, {From: 1}, {To: 1}, {From: 7, To: 7}, {From: 9, To: 3}, {From: 1<<32 - 1, To: 0}, {From: 1<<32 - 1, To: 1<<32 - 1}} {
		l = append(l, api.Opts{Scale: -1, Blocks: []api.Block{x}}, api.Opts{Scale: -1, Blocks: []api.Block{x, x, {To: 5}, x}})
	}
	return l
}

// piece is a part of options' bytes, what of them it says, and what it becomes where 2 is added to its blocks, 3 to Val, 4 to Echo.
type piece struct {
	kind   byte
	bytes  string
	says   func(o *api.Opts)
	turned string
}

// plain is a piece that says nothing and stands as it stood.
func plain(kind byte, s string) piece {
	return piece{kind, s, func(*api.Opts) {}, s}
}

// pieces are such parts of all kinds but the end: of all lengths that may be.
func pieces() []piece {
	l := []piece{
		plain(1, "\x01"),
		{2, "\x02\x04\x05\xb4", func(o *api.Opts) { o.MSS = 1460 }, "\x02\x04\x05\xb4"},
		{2, "\x02\x04\x00\x01", func(o *api.Opts) { o.MSS = 1 }, "\x02\x04\x00\x01"},
		{2, "\x02\x04\x01\x00", func(o *api.Opts) { o.MSS = 256 }, "\x02\x04\x01\x00"},
		{3, "\x03\x03\x00", func(o *api.Opts) { o.Scale = 0 }, "\x03\x03\x00"},
		{3, "\x03\x03\x0e", func(o *api.Opts) { o.Scale = 14 }, "\x03\x03\x0e"},
		{3, "\x03\x03\x0f", func(o *api.Opts) { o.Scale = 14 }, "\x03\x03\x0f"},
		{3, "\x03\x03\xff", func(o *api.Opts) { o.Scale = 14 }, "\x03\x03\xff"},
		{4, "\x04\x02", func(o *api.Opts) { o.Sack = true }, "\x04\x02"},
		{5, "\x05\x0a\x00\x00\x00\x01\xff\xff\xff\xff", func(o *api.Opts) { o.Blocks = []api.Block{{From: 1, To: 1<<32 - 1}} }, "\x05\x0a\x00\x00\x00\x03\x00\x00\x00\x01"},
		{5, "\x05\x12\xff\xff\xff\xfd\xff\xff\xff\xfe\x00\x00\xff\xff\x7f\xff\xff\xff", func(o *api.Opts) {
			o.Blocks = []api.Block{{From: 1<<32 - 3, To: 1<<32 - 2}, {From: 65535, To: 1<<31 - 1}}
		}, "\x05\x12\xff\xff\xff\xff\x00\x00\x00\x00\x00\x01\x00\x01\x80\x00\x00\x01"},
		{5, "\x05\x1a" + strings.Repeat("\x01\x02\x03\x04\x05\x06\x07\x08", 3), func(o *api.Opts) {
			b := api.Block{From: 0x01020304, To: 0x05060708}
			o.Blocks = []api.Block{b, b, b}
		}, "\x05\x1a" + strings.Repeat("\x01\x02\x03\x06\x05\x06\x07\x0a", 3)},
		{5, "\x05\x22" + strings.Repeat("\x05\x06\x07\x08\x01\x02\x03\x04", 4), func(o *api.Opts) {
			b := api.Block{From: 0x05060708, To: 0x01020304}
			o.Blocks = []api.Block{b, b, b, b}
		}, "\x05\x22" + strings.Repeat("\x05\x06\x07\x0a\x01\x02\x03\x06", 4)},
		{8, "\x08\x0a\x00\x00\x00\x05\x00\x00\x00\x06", func(o *api.Opts) { o.Time, o.Val, o.Echo = true, 5, 6 }, "\x08\x0a\x00\x00\x00\x08\x00\x00\x00\x0a"},
		{8, "\x08\x0a\x00\x00\x00\x00\x00\x00\x00\x00", func(o *api.Opts) { o.Time = true }, "\x08\x0a\x00\x00\x00\x03\x00\x00\x00\x04"},
		{8, "\x08\x0a\xff\xff\xff\xff\xff\xff\xff\xfe", func(o *api.Opts) { o.Time, o.Val, o.Echo = true, 1<<32-1, 1<<32-2 }, "\x08\x0a\x00\x00\x00\x02\x00\x00\x00\x02"},
	}
	for _, kind := range []byte{6, 7, 9, 10, 13, 30, 127, 128, 253, 255} {
		l = append(l, plain(kind, string([]byte{kind, 2})), plain(kind, string([]byte{kind, 3, 0})), plain(kind, string([]byte{kind, 10})+"\x08\x0a\x05\x0a\x02\x04\x04\x02"))
	}
	return l
}

// known tells whether a kind may be there just once.
func known(kind byte) bool {
	return kind == 2 || kind == 3 || kind == 4 || kind == 5 || kind == 8
}

// read tells that s is read as o, and what it becomes where it is turned by 2, 3, 4.
func read(t *testing.T, s string, o api.Opts, turned string) {
	t.Helper()
	if x, e := Decode(s); !equal(x, o) || e != api.OK {
		t.Errorf("Decode(%x) is %v, %v, not %v", s, x, e, o)
	}
	if x, e := Turn(s, 2, 3, 4); x != turned || e != api.OK {
		t.Errorf("Turn(%x, 2, 3, 4) is %x, %v, not %x", s, x, e, turned)
	}
	if x, e := Turn(turned, 1<<32-2, 1<<32-3, 1<<32-4); x != s || e != api.OK {
		t.Errorf("%x turned back is %x, %v, not %x", turned, x, e, s)
	}
}

// told tells that s is told to be e, by Decode and by Turn, and nothing else of it.
func told(t *testing.T, s string, e api.Errno) {
	t.Helper()
	if o, got := Decode(s); !equal(o, api.Opts{}) || got != e {
		t.Errorf("Decode(%x), of %d bytes, is %v, %v, not %v", s, len(s), o, got, e)
	}
	if x, got := Turn(s, 2, 3, 4); x != "" || got != e {
		t.Errorf("Turn(%x, 2, 3, 4), of %d bytes, is %x, %v, not %v", s, len(s), x, got, e)
	}
}

// refused tells that o may not be, and has no bytes.
func refused(t *testing.T, o api.Opts) {
	t.Helper()
	if s, e := Encode(o); s != "" || e != api.ErrArg || May(o) {
		t.Errorf("%v is %x, %v; it may be: %v", o, s, e, May(o))
	}
}

// encoded tells that o may be, and what its bytes are.
func encoded(t *testing.T, o api.Opts, want string) {
	t.Helper()
	if s, e := Encode(o); s != want || e != api.OK || !May(o) {
		t.Errorf("%v is %x, %v, not %x; it may be: %v", o, s, e, want, May(o))
	}
}

// equal tells it field by field, apart from Same.
func equal(a, b api.Opts) bool {
	if len(a.Blocks) != len(b.Blocks) {
		return false
	}
	for i := range a.Blocks {
		if a.Blocks[i].From != b.Blocks[i].From || a.Blocks[i].To != b.Blocks[i].To {
			return false
		}
	}
	return a.MSS == b.MSS && a.Scale == b.Scale && a.Sack == b.Sack && a.Time == b.Time && a.Val == b.Val && a.Echo == b.Echo
}

// TestExamples: the chapter's.
func TestExamples(t *testing.T) {
	encoded(t, api.Opts{MSS: 1460, Scale: 7, Sack: true}, "\x02\x04\x05\xb4\x01\x03\x03\x07\x01\x01\x04\x02")
	encoded(t, api.Opts{Scale: -1, Blocks: []api.Block{{From: 1, To: 3}}}, "\x01\x01\x05\x0a\x00\x00\x00\x01\x00\x00\x00\x03")
	for _, s := range []string{"\x02\x04\x05", "\x02\x03\x05", "\x04\x02\x04\x02"} {
		told(t, s, api.ErrOption)
	}
}

// TestNone (P7.1): none is there.
func TestNone(t *testing.T) {
	o := None()
	if o.MSS != 0 || o.Scale != -1 || o.Sack || o.Blocks != nil || o.Time || o.Val != 0 || o.Echo != 0 {
		t.Errorf("none is %v", o)
	}
	encoded(t, o, "")
	encoded(t, api.Opts{Scale: -1, Blocks: []api.Block{}}, "")
	read(t, "", o, "")
}

// TestEncode (P7.1): each option by itself, and all pairs of them, written out.
func TestEncode(t *testing.T) {
	parts := []struct {
		says  func(o *api.Opts)
		bytes string
	}{
		{func(o *api.Opts) { o.MSS = 0x0102 }, "\x02\x04\x01\x02"},
		{func(o *api.Opts) { o.Scale = 0 }, "\x01\x03\x03\x00"},
		{func(o *api.Opts) { o.Sack = true }, "\x01\x01\x04\x02"},
		{func(o *api.Opts) { o.Time, o.Val, o.Echo = true, 0x03040506, 0x0708090a }, "\x01\x01\x08\x0a\x03\x04\x05\x06\x07\x08\x09\x0a"},
		{func(o *api.Opts) {
			o.Blocks = []api.Block{{From: 0x0b0c0d0e, To: 0x0f101112}, {From: 0x13141516, To: 0x1718191a}}
		},
			"\x01\x01\x05\x12\x0b\x0c\x0d\x0e\x0f\x10\x11\x12\x13\x14\x15\x16\x17\x18\x19\x1a"},
	}
	for i, x := range parts {
		o := api.Opts{Scale: -1}
		x.says(&o)
		encoded(t, o, x.bytes)
		for _, y := range parts[i+1:] {
			both := o
			y.says(&both)
			encoded(t, both, x.bytes+y.bytes)
		}
	}
	encoded(t, api.Opts{Scale: -1, Time: true}, "\x01\x01\x08\x0a\x00\x00\x00\x00\x00\x00\x00\x00")
}

// TestEncodeAll (P7.1, P7.4): all of them together, those of MaxOpts bytes, and those of more; what was written is read.
func TestEncodeAll(t *testing.T) {
	var sizes [16]int
	for _, o := range mixes() {
		n := words(o)
		sizes[n]++
		if n > 10 {
			refused(t, o)
			continue
		}
		encoded(t, o, written(o))
		if x, e := Decode(written(o)); !equal(x, o) || e != api.OK {
			t.Errorf("%v is read as %v, %v", o, x, e)
		}
	}
	for n, count := range sizes {
		if count == 0 {
			t.Errorf("none of %d words", n)
		}
	}
}

// TestMaxOpts (P7.1): all that fill MaxOpts bytes just so, and one option more of each kind that is not there.
func TestMaxOpts(t *testing.T) {
	for _, o := range []api.Opts{
		{Scale: -1, Time: true, Blocks: blocksOf(3)},
		{MSS: 1, Scale: 0, Sack: true, Blocks: blocksOf(3)},
		{MSS: 1, Scale: -1, Blocks: blocksOf(4)},
		{Scale: 0, Blocks: blocksOf(4)},
		{Scale: -1, Sack: true, Blocks: blocksOf(4)},
		{MSS: 1, Scale: 0, Time: true, Val: 1, Blocks: blocksOf(2)},
		{MSS: 1, Scale: -1, Sack: true, Time: true, Echo: 1, Blocks: blocksOf(2)},
		{Scale: 0, Sack: true, Time: true, Blocks: blocksOf(2)},
	} {
		encoded(t, o, written(o))
		if len(written(o)) != 40 {
			t.Errorf("%v has %d bytes", o, len(written(o)))
		}
		more := func(is bool, change func(o *api.Opts)) {
			x := o
			change(&x)
			if !is {
				refused(t, x)
			}
		}
		more(o.MSS > 0, func(x *api.Opts) { x.MSS = 7 })
		more(o.Scale >= 0, func(x *api.Opts) { x.Scale = 7 })
		more(o.Sack, func(x *api.Opts) { x.Sack = true })
		more(o.Time, func(x *api.Opts) { x.Time = true })
		more(false, func(x *api.Opts) { x.Blocks = blocksOf(len(o.Blocks) + 1) })
	}
}

// TestScale (P7.1): from -1 to MaxScale.
func TestScale(t *testing.T) {
	for n := -300; n <= 300; n++ {
		o := api.Opts{MSS: 9, Scale: n}
		if n >= -1 && n <= 14 {
			encoded(t, o, written(o))
		} else {
			refused(t, o)
		}
	}
	for _, n := range []int{math.MinInt, math.MaxInt, 1 << 16, 1 << 32, 1<<32 - 1, -1 << 32} {
		refused(t, api.Opts{Scale: n})
	}
}

// TestMaxBlocks (P7.1): MaxBlocks may be, one more may not.
func TestMaxBlocks(t *testing.T) {
	for n := range 5 {
		o := api.Opts{Scale: -1, Blocks: blocksOf(n)}
		encoded(t, o, written(o))
	}
	for _, n := range []int{5, 6, 31, 32, 33, 36, 64, 256, 1 << 16} {
		refused(t, api.Opts{Scale: -1, Blocks: make([]api.Block, n)})
	}
}

// TestTimeless (P7.1): Val and Echo without Time.
func TestTimeless(t *testing.T) {
	for _, n := range []uint32{1, 2, 1 << 31, 1<<32 - 1} {
		for _, o := range []api.Opts{{Scale: -1, Val: n}, {Scale: -1, Echo: n}, {Scale: -1, Val: n, Echo: n}, {Scale: -1, Val: n, Echo: -n}, {MSS: 1, Scale: 1, Sack: true, Blocks: blocksOf(1), Echo: n}} {
			refused(t, o)
			o.Time = true
			encoded(t, o, written(o))
		}
	}
}

// TestSame (P7.1): options that differ in one part only are not the same; those that may not be are told apart too.
func TestSame(t *testing.T) {
	changes := []func(o *api.Opts){
		func(o *api.Opts) { o.MSS++ }, func(o *api.Opts) { o.MSS += 256 },
		func(o *api.Opts) { o.Scale++ }, func(o *api.Opts) { o.Scale += 256 }, func(o *api.Opts) { o.Scale += 1 << 32 },
		func(o *api.Opts) { o.Sack = !o.Sack }, func(o *api.Opts) { o.Time = !o.Time },
		func(o *api.Opts) { o.Val++ }, func(o *api.Opts) { o.Val += 1 << 31 },
		func(o *api.Opts) { o.Echo++ }, func(o *api.Opts) { o.Echo += 1 << 31 },
		func(o *api.Opts) { o.Blocks = append(blocksOf(len(o.Blocks)), api.Block{}) },
		func(o *api.Opts) { o.Blocks = append([]api.Block{{}}, o.Blocks...) },
		func(o *api.Opts) { o.Blocks = blocksOf(3); o.Blocks[0].From++ },
		func(o *api.Opts) { o.Blocks = blocksOf(3); o.Blocks[1].To++ },
		func(o *api.Opts) { o.Blocks = blocksOf(3); o.Blocks[2].To += 1 << 31 },
		func(o *api.Opts) { o.Blocks = blocksOf(3); o.Blocks[0], o.Blocks[2] = o.Blocks[2], o.Blocks[0] },
		func(o *api.Opts) { o.Blocks = blocksOf(2) },
		func(o *api.Opts) { o.Val, o.Echo = o.Echo+5, o.Val },
	}
	for _, o := range []api.Opts{{}, {Scale: -1}, {MSS: 1460, Scale: 7, Sack: true, Time: true, Val: 1, Echo: 2}, {Scale: 99, Val: 1, Echo: 2}, {MSS: 1, Scale: -1, Blocks: blocksOf(3)}, {Scale: -5, Blocks: blocksOf(7), Time: true}} {
		x := o
		x.Blocks = append([]api.Block{}, o.Blocks...)
		if !Same(o, o) || !Same(o, x) || !Same(x, o) {
			t.Errorf("%v is not what it is", o)
		}
		for i, change := range changes {
			y := o
			change(&y)
			if Same(o, y) || Same(y, o) {
				t.Errorf("%d: %v is %v", i, o, y)
			}
		}
	}
}

// TestSameNoBlocks (P7.1): a list that is nil and one of no blocks are the same.
func TestSameNoBlocks(t *testing.T) {
	if a, b := (api.Opts{Scale: -1}), (api.Opts{Scale: -1, Blocks: []api.Block{}}); !Same(a, b) || !Same(b, a) || !May(b) {
		t.Error("they are not the same")
	}
}

// TestDecode (P7.2, P7.3): each piece by itself, and behind and ahead of each other one, and of three; a known kind just once.
func TestDecode(t *testing.T) {
	all := pieces()
	for _, x := range all {
		combined(t, x)
		for _, y := range all {
			combined(t, x, y)
			for _, z := range all {
				combined(t, x, y, z)
			}
		}
	}
}

// combined tells what pieces together are read as, and turned.
func combined(t *testing.T, l ...piece) {
	t.Helper()
	o, s, turned, had, e := api.Opts{Scale: -1}, "", "", map[byte]int{}, api.OK
	for _, x := range l {
		x.says(&o)
		s += x.bytes
		turned += x.turned
		had[x.kind]++
		if known(x.kind) && had[x.kind] > 1 {
			e = api.ErrOption
		}
	}
	if len(s) > 40 {
		e = api.ErrLong
	}
	if e != api.OK {
		told(t, s, e)
		return
	}
	read(t, s, o, turned)
	ended(t, s, o, turned)
}

// ended tells that whatever stands behind an end is not looked at, and stands as it stood.
func ended(t *testing.T, s string, o api.Opts, turned string) {
	t.Helper()
	for _, rest := range []string{"\x00", "\x00\x00\x00\x00", "\x00\x02", "\x00\x02\x03", "\x00\x01\x04\x02\x04\x02", "\x00\x08\x0a\x00\x00\x00\x05\x00\x00\x00\x06", "\x00\x05\x0a\x00\x00\x00\x05\x00\x00\x00\x06", "\x00\xff\xff\xff"} {
		if len(s+rest) <= 40 {
			read(t, s+rest, o, turned+rest)
		}
	}
}

// TestWholeHead (P7.2, P7.3): without bytes of nothing between them, more options fit into MaxOpts bytes than Encode writes.
func TestWholeHead(t *testing.T) {
	s := "\x02\x04\x05\xb4\x03\x03\x07\x04\x02\x08\x0a\x00\x00\x00\x05\x00\x00\x00\x06\x05\x12\x00\x00\x00\x01\x00\x00\x00\x02\x00\x00\x00\x03\x00\x00\x00\x04\x01\x01\x01"
	turned := "\x02\x04\x05\xb4\x03\x03\x07\x04\x02\x08\x0a\x00\x00\x00\x08\x00\x00\x00\x0a\x05\x12\x00\x00\x00\x03\x00\x00\x00\x04\x00\x00\x00\x05\x00\x00\x00\x06\x01\x01\x01"
	o := api.Opts{MSS: 1460, Scale: 7, Sack: true, Time: true, Val: 5, Echo: 6, Blocks: []api.Block{{From: 1, To: 2}, {From: 3, To: 4}}}
	read(t, s, o, turned)
	refused(t, o)
}

// TestLengths (P7.2): all kinds with all lengths; there are as many bytes as that tells, one more, all that may be, or one too few.
func TestLengths(t *testing.T) {
	for kind := 2; kind < 256; kind++ {
		for length := range 256 {
			s := string([]byte{byte(kind), byte(length)}) + strings.Repeat("\x01", 38)
			may := length >= 2
			switch kind {
			case 2:
				may = length == 4
			case 3:
				may = length == 3
			case 4:
				may = length == 2
			case 5:
				may = length == 10 || length == 18 || length == 26 || length == 34
			case 8:
				may = length == 10
			}
			for n := 2; n <= 40; n++ {
				if o, e := Decode(s[:n]); (e == api.OK) != (may && length <= n) || e != api.OK && (e != api.ErrOption || !equal(o, api.Opts{})) {
					t.Errorf("Decode(%x) is %v, %v", s[:n], o, e)
				}
			}
		}
	}
}

// TestWrongLengths (P7.2): of each kind, also behind others, and with more behind.
func TestWrongLengths(t *testing.T) {
	for _, s := range []string{
		"\x02\x00", "\x02\x01", "\x02\x02", "\x02\x03\x05", "\x02\x05\x05\xb4\x01", "\x02\x06\x05\xb4\x01\x01", "\x02\x00\x05\xb4", "\x02\x01\x05\xb4",
		"\x03\x00", "\x03\x01", "\x03\x02", "\x03\x04\x07\x01", "\x03\x00\x07", "\x03\x01\x07",
		"\x04\x00", "\x04\x01", "\x04\x03\x01", "\x04\x04\x01\x01",
		"\x05\x00", "\x05\x01", "\x05\x02", "\x05\x06\x00\x00\x00\x01", "\x05\x08\x00\x00\x00\x01\x00\x02", "\x05\x09\x00\x00\x00\x01\x00\x00\x00", "\x05\x0b\x00\x00\x00\x01\x00\x00\x00\x02\x00", "\x05\x0e\x00\x00\x00\x01\x00\x00\x00\x02\x00\x00\x00\x03",
		"\x08\x00", "\x08\x01", "\x08\x02", "\x08\x06\x00\x00\x00\x01", "\x08\x09\x00\x00\x00\x01\x00\x00\x00", "\x08\x0b\x00\x00\x00\x01\x00\x00\x00\x02\x00", "\x08\x12" + strings.Repeat("\x00", 16),
		"\x06\x00", "\x06\x01", "\xff\x00", "\xff\x01", "\x1e\x00\x00", "\x1e\x01\x00",
		"\x02\x04\x05", "\x02\x04", "\x03\x03", "\x05\x0a\x00\x00\x00\x01\x00\x00\x00", "\x05\x12" + strings.Repeat("\x00", 15), "\x08\x0a\x00\x00\x00\x01\x00\x00\x00", "\x1e\x03", "\x1e\xff\x00", "\xff\xff",
		"\x02", "\x03", "\x04", "\x05", "\x06", "\x08", "\xff", "\x04\x02\x02", "\x1e\x02\x1e",
		"\x02\x04\x00\x00", "\x05\x2a" + strings.Repeat("\x00", 38), "\x05\x22" + strings.Repeat("\x00", 31),
	} {
		for _, ahead := range []string{"", "\x01", "\x1e\x02", "\x1e\x03\x00", "\x07\x02\x07\x02"} {
			if len(ahead+s) <= 40 {
				told(t, ahead+s, api.ErrOption)
			}
			if long := "\x00" + ahead + s; len(long) <= 40 {
				read(t, long, None(), long)
			}
		}
	}
}

// TestTwice (P7.2): a known kind for the second time, with other numbers or the same, also where the first one says 0; an unknown one may be twice.
func TestTwice(t *testing.T) {
	for _, s := range []string{
		"\x02\x04\x05\xb4\x02\x04\x05\xb4", "\x02\x04\x05\xb4\x02\x04\x00\x01", "\x02\x04\x05\xb4\x02\x04\x00\x00",
		"\x03\x03\x00\x03\x03\x00", "\x03\x03\x07\x01\x01\x03\x03\x08", "\x03\x03\xff\x03\x03\x00",
		"\x04\x02\x04\x02", "\x04\x02\x01\x04\x02",
		"\x05\x0a\x00\x00\x00\x00\x00\x00\x00\x00\x05\x0a\x00\x00\x00\x00\x00\x00\x00\x00", "\x05\x0a\x00\x00\x00\x00\x00\x00\x00\x00\x04\x02\x05\x12\x00\x00\x00\x00\x00\x00\x00\x00\x00\x00\x00\x00\x00\x00\x00\x00",
		"\x08\x0a\x00\x00\x00\x00\x00\x00\x00\x00\x08\x0a\x00\x00\x00\x00\x00\x00\x00\x00", "\x08\x0a\x00\x00\x00\x05\x00\x00\x00\x06\x1e\x02\x08\x0a\x00\x00\x00\x05\x00\x00\x00\x06",
	} {
		told(t, s, api.ErrOption)
		told(t, "\x01"+s+"\x00", api.ErrOption)
	}
	for _, s := range []string{"\x06\x02\x06\x02", "\x1e\x03x\x1e\x03x\x1e\x02", "\x09\x02\x09\x04\x00\x00", "\xff\x02\xff\x02\xff\x02", "\x01\x01\x01", "\x00\x00\x00"} {
		read(t, s, None(), s)
	}
}

// TestScaleAbove (P7.2, P7.3): what is above MaxScale is read as it, and stays where it is turned.
func TestScaleAbove(t *testing.T) {
	for n := range 256 {
		s := string([]byte{3, 3, byte(n)})
		read(t, s, api.Opts{Scale: min(n, 14)}, s)
	}
}

// TestMSS (P7.2): all that there are; 0 is none.
func TestMSS(t *testing.T) {
	for n := range 65536 {
		s := string([]byte{2, 4, byte(n >> 8), byte(n)})
		if o, e := Decode(s); n > 0 && (!equal(o, api.Opts{MSS: uint16(n), Scale: -1}) || e != api.OK) {
			t.Errorf("Decode(%x) is %v, %v", s, o, e)
		}
	}
	told(t, "\x02\x04\x00\x00", api.ErrOption)
}

// TestLong (P7.2): MaxOpts bytes may be, more may not, whatever they are; ErrLong is told ahead of ErrOption.
func TestLong(t *testing.T) {
	for _, c := range []string{"\x00", "\x01", "\x02", "\x04", "\xff"} {
		for _, n := range []int{41, 42, 43, 44, 60, 64, 255, 256, 257, 296, 65536, 65536 + 40} {
			told(t, strings.Repeat(c, n), api.ErrLong)
		}
	}
	for _, s := range []string{strings.Repeat("\x01", 40), strings.Repeat("\x00", 40), strings.Repeat("\x1e\x02", 20), "\x1e\x28" + strings.Repeat("\x02", 38)} {
		read(t, s, None(), s)
		told(t, s+"\x01", api.ErrLong)
		told(t, s+"\x02", api.ErrLong)
		told(t, "\x02"+s, api.ErrLong)
	}
	four := "\x01\x01\x01\x01\x01\x01\x05\x22" + strings.Repeat("\x00\x00\x00\x01\x00\x00\x00\x02", 4)
	b := api.Block{From: 1, To: 2}
	read(t, four, api.Opts{Scale: -1, Blocks: []api.Block{b, b, b, b}}, "\x01\x01\x01\x01\x01\x01\x05\x22"+strings.Repeat("\x00\x00\x00\x03\x00\x00\x00\x04", 4))
	told(t, "\x01"+four, api.ErrLong)
}

// reading is what s is read as, told one by one from its front; false, if it may not be.
func reading(s string, had [256]bool, o api.Opts) (api.Opts, bool) {
	if s == "" || s[0] == 0 {
		return o, true
	}
	if s[0] == 1 {
		return reading(s[1:], had, o)
	}
	if len(s) == 1 || s[1] < 2 || int(s[1]) > len(s) || had[s[0]] && known(s[0]) {
		return api.Opts{}, false
	}
	said := s[2:s[1]]
	number := func(at int) uint32 { return binary.BigEndian.Uint32([]byte(said[at : at+4])) }
	switch n := len(said); {
	case s[0] == 2 && n == 2 && said != "\x00\x00":
		o.MSS = uint16(said[0])*256 + uint16(said[1])
	case s[0] == 3 && n == 1 && said[0] > 14:
		o.Scale = 14
	case s[0] == 3 && n == 1:
		o.Scale = int(said[0])
	case s[0] == 4 && n == 0:
		o.Sack = true
	case s[0] == 5 && (n == 8 || n == 16 || n == 24 || n == 32):
		for at := 0; at < n; at += 8 {
			o.Blocks = append(o.Blocks, api.Block{From: number(at), To: number(at + 4)})
		}
	case s[0] == 8 && n == 8:
		o.Time, o.Val, o.Echo = true, number(0), number(4)
	case known(s[0]):
		return api.Opts{}, false
	}
	had[s[0]] = true
	return reading(s[s[1]:], had, o)
}

// held tells that s is read as reading tells.
func held(t *testing.T, s string) bool {
	t.Helper()
	want, may := reading(s, [256]bool{}, api.Opts{Scale: -1})
	o, e := Decode(s)
	if !equal(o, want) || (e == api.OK) != may || !may && e != api.ErrOption {
		t.Errorf("Decode(%x) is %v, %v, not %v, %v", s, o, e, want, may)
	}
	return may
}

// TestDecodeAny (P7.2): all bytes of up to two, all of five of those that mean something, and many that jump about.
func TestDecodeAny(t *testing.T) {
	for n := range 65536 {
		held(t, string([]byte{byte(n)}))
		held(t, string([]byte{byte(n >> 8), byte(n)}))
	}
	const some = "\x00\x01\x02\x03\x04\x05\x06\x08\x0a\x0f\xff"
	every(5, some, "", func(s string) { held(t, s) })
	next := jumping(72)
	read := 0
	for range 200000 {
		b := make([]byte, next()>>8%41)
		for i := range b {
			b[i] = some[next()>>8%uint32(len(some))]
		}
		if held(t, string(b)) {
			read++
		}
	}
	if read < 1000 {
		t.Errorf("only %d are read", read)
	}
}

// every calls do with each text of up to n of those bytes.
func every(n int, bytes, ahead string, do func(s string)) {
	do(ahead)
	if n == 0 {
		return
	}
	for i := range len(bytes) {
		every(n-1, bytes, ahead+bytes[i:i+1], do)
	}
}

// turned are options with numbers added to.
func turned(o api.Opts, blocks, val, echo uint32) api.Opts {
	var l []api.Block
	for _, x := range o.Blocks {
		l = append(l, api.Block{From: x.From + blocks, To: x.To + blocks})
	}
	o.Blocks = l
	if o.Time {
		o.Val, o.Echo = o.Val+val, o.Echo+echo
	}
	return o
}

// TestTurn (P7.3): bytes that are written out, next to 2^32.
func TestTurn(t *testing.T) {
	for _, x := range []struct {
		s                 string
		blocks, val, echo uint32
		want              string
	}{
		{"\x05\x0a\x00\x00\x00\x01\xff\xff\xff\xff", 0, 7, 7, "\x05\x0a\x00\x00\x00\x01\xff\xff\xff\xff"},
		{"\x05\x0a\x00\x00\x00\x01\xff\xff\xff\xff", 1, 7, 7, "\x05\x0a\x00\x00\x00\x02\x00\x00\x00\x00"},
		{"\x05\x0a\x00\x00\x00\x01\xff\xff\xff\xff", 1<<32 - 1, 7, 7, "\x05\x0a\x00\x00\x00\x00\xff\xff\xff\xfe"},
		{"\x05\x0a\x00\x00\x00\x01\xff\xff\xff\xff", 1<<32 - 2, 7, 7, "\x05\x0a\xff\xff\xff\xff\xff\xff\xff\xfd"},
		{"\x05\x0a\x00\x00\x00\x01\xff\xff\xff\xff", 1 << 31, 7, 7, "\x05\x0a\x80\x00\x00\x01\x7f\xff\xff\xff"},
		{"\x05\x0a\x00\xff\xff\xff\x0f\xff\xff\xff", 1, 7, 7, "\x05\x0a\x01\x00\x00\x00\x10\x00\x00\x00"},
		{"\x08\x0a\xff\xff\xff\xff\x00\x00\x00\x00", 7, 1, 0, "\x08\x0a\x00\x00\x00\x00\x00\x00\x00\x00"},
		{"\x08\x0a\xff\xff\xff\xff\x00\x00\x00\x00", 7, 0, 1<<32 - 1, "\x08\x0a\xff\xff\xff\xff\xff\xff\xff\xff"},
		{"\x08\x0a\xff\xff\xff\xff\x00\x00\x00\x00", 7, 1<<32 - 1, 1 << 31, "\x08\x0a\xff\xff\xff\xfe\x80\x00\x00\x00"},
		{"\x02\x04\xff\xff\x03\x03\x0e\x04\x02\x1e\x0a\x00\x00\x00\x01\x00\x00\x00\x02\x01\x00\x05\x0a", 1, 2, 3, "\x02\x04\xff\xff\x03\x03\x0e\x04\x02\x1e\x0a\x00\x00\x00\x01\x00\x00\x00\x02\x01\x00\x05\x0a"},
		{"\x01\x08\x0a\x00\x00\x00\x05\x00\x00\x00\x06\x1e\x02\x05\x12\x00\x00\x00\x01\x00\x00\x00\x02\xff\xff\xff\xf0\x00\x00\x00\x07\x01", 16, 32, 48,
			"\x01\x08\x0a\x00\x00\x00\x25\x00\x00\x00\x36\x1e\x02\x05\x12\x00\x00\x00\x11\x00\x00\x00\x12\x00\x00\x00\x00\x00\x00\x00\x17\x01"},
		{"", 1, 2, 3, ""},
	} {
		if s, e := Turn(x.s, x.blocks, x.val, x.echo); s != x.want || e != api.OK {
			t.Errorf("Turn(%x, %x, %x, %x) is %x, %v, not %x", x.s, x.blocks, x.val, x.echo, s, e, x.want)
		}
	}
}

// TestTurnIsRead (P7.3, P7.4): what is turned is read as what was there, turned; turned back, it is what it was.
func TestTurnIsRead(t *testing.T) {
	next := jumping(74)
	by := [][3]uint32{{0, 0, 0}, {1, 0, 0}, {0, 1, 0}, {0, 0, 1}, {1<<32 - 1, 1 << 31, 1}, {1, 1<<32 - 1, 1 << 31}, {1 << 31, 1, 1<<32 - 1}, {next(), next(), next()}, {next(), next(), next()}}
	for _, o := range mixes() {
		if words(o) > 10 {
			continue
		}
		s := written(o)
		for _, n := range by {
			x, e := Turn(s, n[0], n[1], n[2])
			if x != written(turned(o, n[0], n[1], n[2])) || e != api.OK {
				t.Errorf("%v, turned by %x, is %x, %v", o, n, x, e)
			}
			if y, e := Decode(x); !equal(y, turned(o, n[0], n[1], n[2])) || e != api.OK {
				t.Errorf("%v, turned by %x, is read as %v, %v", o, n, y, e)
			}
			if back, e := Turn(x, -n[0], -n[1], -n[2]); back != s || e != api.OK {
				t.Errorf("%v, turned by %x and back, is %x, %v", o, n, back, e)
			}
		}
	}
}

// TestOwnMemory (R5): answers are none of an argument's memory, and arguments stay as they are.
func TestOwnMemory(t *testing.T) {
	for _, s := range []string{"\x02\x04\x05\xb4", "\x01\x01\x08\x0a\x00\x00\x00\x05\x00\x00\x00\x06"} {
		x, e := Turn(s, 0, 0, 0)
		if x != s || e != api.OK || unsafe.StringData(x) == unsafe.StringData(s) {
			t.Errorf("Turn(%x) is %x, %v, in its memory", s, x, e)
		}
	}
	l := blocksOf(2)
	if _, e := Encode(api.Opts{Scale: -1, Blocks: l}); e != api.OK || l[0] != blocksOf(2)[0] || l[1] != blocksOf(2)[1] {
		t.Errorf("Encode made the blocks %v, %v", l, e)
	}
	const s = "\x05\x0a\x00\x00\x00\x01\x00\x00\x00\x02"
	a, _ := Decode(s)
	b, _ := Decode(s)
	a.Blocks[0].From = 9
	if b.Blocks[0].From != 1 {
		t.Error("two answers have one list")
	}
}
