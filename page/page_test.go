package page

import (
	"bytes"
	"encoding/binary"
	"fmt"
	"hash/crc32"
	"math"
	"math/rand"
	"slices"
	"testing"

	"drystone/api"
	"drystone/geom"
)

// shapes are valid ones with one page, with two and with many, with a last page that is full and one that is not; some have but the least numbers, some others.
func shapes() []geom.Shape {
	return []geom.Shape{
		{Members: 3, Block: 32, Segments: 4, Stripes: 2, Nv: 2, Logical: 1},       // 4 pages of 17 bytes, of the last one byte
		{Members: 3, Block: 32, Segments: 4, Stripes: 16, Nv: 1, Logical: 5},      // 4 pages of 17 bytes, all full
		{Members: 3, Block: 67, Segments: 4, Stripes: 2, Nv: 1, Logical: 1},       // 1 page, full
		{Members: 3, Block: 68, Segments: 4, Stripes: 2, Nv: 1, Logical: 1},       // 1 page, but for one byte
		{Members: 3, Block: 512, Segments: 4, Stripes: 2, Nv: 2, Logical: 1},      // 1 page, of 497 bytes
		{Members: 3, Block: 41, Segments: 4, Stripes: 2, Nv: 2, Logical: 1},       // 2 pages of 26 bytes, both full
		{Members: 3, Block: 66, Segments: 4, Stripes: 2, Nv: 2, Logical: 1},       // 2 pages of 51 bytes, of the second one byte
		{Members: 3, Block: 44, Segments: 5, Stripes: 2, Nv: 2, Logical: 2},       // 3 pages of 29 bytes
		{Members: 5, Block: 48, Segments: 7, Stripes: 3, Nv: 4, Logical: 24},      // 6 pages of 33 bytes
		{Members: 16, Block: 85, Segments: 4, Stripes: 2, Nv: 14, Logical: 3},     // 1 page
		{Members: 4, Block: 32, Segments: 64, Stripes: 4, Nv: 8, Logical: 40},     // 44 pages, all full
		{Members: 16, Block: 512, Segments: 64, Stripes: 16, Nv: 224, Logical: 1}, // 2 pages of 497 bytes
	}
}

// greatestShape is the one with the most pages.
func greatestShape() geom.Shape {
	return geom.Shape{Members: 16, Block: 85, Segments: 64, Stripes: 16, Nv: 14, Logical: 12810}
}

// invalid are shapes that are not valid: a valid one with one number that is too small or too great.
func invalid() []geom.Shape {
	l := []geom.Shape{{}, {Members: -1, Block: -1, Segments: -1, Stripes: -1, Nv: -1, Logical: -1}}
	for _, n := range []int{math.MinInt, -1, 0, 513, 1 << 40, math.MaxInt} {
		for i := range 6 {
			s := shapes()[0]
			*[]*int{&s.Members, &s.Block, &s.Segments, &s.Stripes, &s.Nv, &s.Logical}[i] = n
			l = append(l, s)
		}
		l = append(l, geom.Shape{Members: n, Block: n, Segments: n, Stripes: n, Nv: n, Logical: n})
	}
	return append(l,
		geom.Shape{Members: 3, Block: 31, Segments: 4, Stripes: 2, Nv: 2, Logical: 1},
		geom.Shape{Members: 16, Block: 84, Segments: 4, Stripes: 2, Nv: 14, Logical: 1},
		geom.Shape{Members: 3, Block: 32, Segments: 4, Stripes: 2, Nv: 3, Logical: 1},
		geom.Shape{Members: 3, Block: 32, Segments: 4, Stripes: 2, Nv: 2, Logical: 2},
	)
}

// places is how many places there are.
func places(s geom.Shape) int {
	return s.Segments * s.Stripes * (s.Members - 2)
}

// least and most are images of the least and of the greatest numbers, sample one of numbers that differ from each other.
func least(s geom.Shape) Image {
	x := Image{Segment: -1, Segments: make([]Segment, s.Segments), Map: make([]int, s.Logical)}
	for i := range x.Map {
		x.Map[i] = -1
	}
	return x
}

func most(s geom.Shape) Image {
	x := Image{Seq: math.MaxUint64, Segment: s.Segments - 1, Index: s.Stripes - 1}
	x.Segments = slices.Repeat([]Segment{{State: 2, Born: math.MaxUint64}}, s.Segments)
	x.Map = slices.Repeat([]int{places(s) - 1}, s.Logical)
	return x
}

func sample(s geom.Shape) Image {
	x := Image{Seq: 0x1817161514131211, Segment: 2, Index: 1}
	for i := range s.Segments {
		x.Segments = append(x.Segments, Segment{State: (i + 1) % 3, Born: uint64(i+1) * 0x0123456789ABCD})
	}
	for i := range s.Logical {
		x.Map = append(x.Map, (i*7+5)%places(s)-i%2)
	}
	return x
}

func samples(s geom.Shape) []Image {
	return []Image{least(s), most(s), sample(s)}
}

// cloned is an image that shares nothing with another one.
func cloned(x Image) Image {
	x.Segments, x.Map = slices.Clone(x.Segments), slices.Clone(x.Map)
	return x
}

// same returns whether two images are equal; empty lists are so whether nil or not (R4).
func same(x, y Image) bool {
	return x.Seq == y.Seq && x.Segment == y.Segment && x.Index == y.Index && slices.Equal(x.Segments, y.Segments) && slices.Equal(x.Map, y.Map)
}

// flat is an independent statement of an image's bytes.
func flat(x Image) []byte {
	b := binary.LittleEndian.AppendUint64(nil, x.Seq)
	b = binary.LittleEndian.AppendUint16(b, uint16(x.Segment+1))
	b = binary.LittleEndian.AppendUint16(b, uint16(x.Index))
	for _, g := range x.Segments {
		b = binary.LittleEndian.AppendUint64(append(b, byte(g.State)), g.Born)
	}
	for _, place := range x.Map {
		b = binary.LittleEndian.AppendUint32(b, uint32(place+1))
	}
	return b
}

// seal puts the sum of bytes behind them.
func seal(b []byte) []byte {
	return binary.LittleEndian.AppendUint32(slices.Clone(b), crc32.ChecksumIEEE(b))
}

// reseal puts the sum that fits a page at its end.
func reseal(b []byte) {
	end := len(b) - 4
	binary.LittleEndian.PutUint32(b[end:], crc32.ChecksumIEEE(b[:end]))
}

// pagesOf is an independent statement of the pages that hold bytes: the bytes are shared out, with zeros behind them.
func pagesOf(block int, gen uint64, all []byte) [][]byte {
	var l [][]byte
	for i := 0; len(all) > 0; i++ {
		part := make([]byte, block-15)
		all = all[copy(part, all):]
		b := binary.LittleEndian.AppendUint64([]byte{'P'}, gen)
		b = binary.LittleEndian.AppendUint16(b, uint16(i))
		l = append(l, seal(append(b, part...)))
	}
	return l
}

// copyOf is pages that share nothing with others.
func copyOf(l [][]byte) [][]byte {
	r := make([][]byte, len(l))
	for i := range l {
		r[i] = slices.Clone(l[i])
	}
	return r
}

// equal returns whether pages are the same, byte for byte.
func equal(a, b [][]byte) bool {
	return slices.EqualFunc(a, b, bytes.Equal)
}

// brief is the beginning of what is to be told, since images and pages may be long.
func brief(x any) string {
	told := fmt.Sprintf("%+v", x)
	return told[:min(len(told), 400)]
}

// mustFail checks that pages have an error, and beside it the zero value of an image (R3).
func mustFail(t *testing.T, what string, s geom.Shape, gen uint64, l [][]byte, want api.Errno) {
	t.Helper()
	x, err := Decode(s, gen, l)
	if err != want || !same(x, Image{}) {
		t.Errorf("%s: Decode of %d pages of %+v = %s, %d, not %d", what, len(l), s, brief(x), err, want)
	}
}

// mustDecode checks that pages have an image.
func mustDecode(t *testing.T, s geom.Shape, gen uint64, l [][]byte, want Image) {
	t.Helper()
	if x, err := Decode(s, gen, l); err != api.OK || !same(x, want) {
		t.Errorf("Decode of the pages of %s = %s, %d", brief(want), brief(x), err)
	}
}

// mustEncode checks the pages of an image against the independent statement of them, and that they are read again.
func mustEncode(t *testing.T, s geom.Shape, gen uint64, x Image) [][]byte {
	t.Helper()
	l := Encode(s, gen, x)
	if want := pagesOf(s.Block, gen, flat(x)); !equal(l, want) {
		t.Errorf("Encode(%+v, %d, %s) = %s, not %s", s, gen, brief(x), brief(l), brief(want))
	}
	mustDecode(t, s, gen, l, x)
	return l
}

// P10.1: images written out byte for byte, page by page; each is read again.
func TestBytes(t *testing.T) {
	for _, c := range []struct {
		s    geom.Shape
		gen  uint64
		x    Image
		want [][]byte
	}{
		{
			geom.Shape{Members: 3, Block: 32, Segments: 4, Stripes: 2, Nv: 2, Logical: 1}, 5,
			Image{Seq: 7, Segment: 1, Index: 1, Segments: []Segment{{2, 6}, {1, 0}, {}, {}}, Map: []int{3}},
			[][]byte{
				{'P', 5, 0, 0, 0, 0, 0, 0, 0, 0, 0, 7, 0, 0, 0, 0, 0, 0, 0, 2, 0, 1, 0, 2, 6, 0, 0, 0, 0xB8, 0xC2, 0x25, 0x0E},
				{'P', 5, 0, 0, 0, 0, 0, 0, 0, 1, 0, 0, 0, 0, 0, 1, 0, 0, 0, 0, 0, 0, 0, 0, 0, 0, 0, 0, 0xA0, 0xC8, 0xE9, 0xF3},
				{'P', 5, 0, 0, 0, 0, 0, 0, 0, 2, 0, 0, 0, 0, 0, 0, 0, 0, 0, 0, 0, 0, 0, 0, 0, 4, 0, 0, 0x50, 0x3F, 0x20, 0x8A},
				{'P', 5, 0, 0, 0, 0, 0, 0, 0, 3, 0, 0, 0, 0, 0, 0, 0, 0, 0, 0, 0, 0, 0, 0, 0, 0, 0, 0, 0xD4, 0x17, 0xCB, 0x5A},
			},
		},
		{
			geom.Shape{Members: 3, Block: 67, Segments: 4, Stripes: 2, Nv: 1, Logical: 1}, 0x0807060504030201,
			Image{Seq: 0x1817161514131211, Segment: -1, Segments: []Segment{{}, {1, 0x2827262524232221}, {2, math.MaxUint64}, {0, 1}}, Map: []int{-1}},
			[][]byte{
				{'P', 1, 2, 3, 4, 5, 6, 7, 8, 0, 0, 0x11, 0x12, 0x13, 0x14, 0x15, 0x16, 0x17, 0x18, 0, 0, 0, 0,
					0, 0, 0, 0, 0, 0, 0, 0, 0, 1, 0x21, 0x22, 0x23, 0x24, 0x25, 0x26, 0x27, 0x28,
					2, 0xFF, 0xFF, 0xFF, 0xFF, 0xFF, 0xFF, 0xFF, 0xFF, 0, 1, 0, 0, 0, 0, 0, 0, 0,
					0, 0, 0, 0, 0xA0, 0x27, 0xB9, 0xDB},
			},
		},
		{
			geom.Shape{Members: 3, Block: 44, Segments: 5, Stripes: 2, Nv: 2, Logical: 2}, math.MaxUint64,
			Image{Seq: math.MaxUint64, Segment: 4, Index: 1, Segments: []Segment{{2, 1}, {2, 258}, {1, 0}, {}, {}}, Map: []int{9, -1}},
			[][]byte{
				{'P', 0xFF, 0xFF, 0xFF, 0xFF, 0xFF, 0xFF, 0xFF, 0xFF, 0, 0, 0xFF, 0xFF, 0xFF, 0xFF, 0xFF, 0xFF, 0xFF, 0xFF, 5, 0, 1, 0, 2, 1, 0, 0, 0, 0, 0, 0, 0, 2, 2, 1, 0, 0, 0, 0, 0, 0x51, 0x96, 0x97, 0x2D},
				{'P', 0xFF, 0xFF, 0xFF, 0xFF, 0xFF, 0xFF, 0xFF, 0xFF, 1, 0, 0, 1, 0, 0, 0, 0, 0, 0, 0, 0, 0, 0, 0, 0, 0, 0, 0, 0, 0, 0, 0, 0, 0, 0, 0, 0, 0, 0, 0x0A, 0xF0, 0x62, 0xF8, 0x1E},
				{'P', 0xFF, 0xFF, 0xFF, 0xFF, 0xFF, 0xFF, 0xFF, 0xFF, 2, 0, 0, 0, 0, 0, 0, 0, 0, 0, 0, 0, 0, 0, 0, 0, 0, 0, 0, 0, 0, 0, 0, 0, 0, 0, 0, 0, 0, 0, 0, 0x80, 0x4F, 0xB0, 0xEC},
			},
		},
	} {
		if l := Encode(c.s, c.gen, c.x); !equal(l, c.want) {
			t.Errorf("Encode(%+v, %d, %+v) = %v, not %v", c.s, c.gen, c.x, l, c.want)
		}
		mustDecode(t, c.s, c.gen, c.want, c.x)
	}
}

// P10.1: the chapter's example: if there is one page, the whole image is in one sector.
func TestOnePage(t *testing.T) {
	for _, s := range shapes()[2:5] {
		for _, x := range samples(s) {
			l := mustEncode(t, s, 9, x)
			if len(l) != 1 || len(l[0]) != s.Block || !bytes.Equal(l[0][11:63], flat(x)) {
				t.Errorf("%s is not in the one page %v", brief(x), l)
			}
		}
	}
}

// P10.1: there are as many pages as the shape has, each of them a block; the image's bytes are shared out to them, with zeros behind.
func TestShapes(t *testing.T) {
	counts := []int{4, 4, 1, 1, 1, 2, 2, 3, 6, 1, 44, 2}
	for i, s := range append(shapes(), greatestShape()) {
		if s.Check() != api.OK {
			t.Fatalf("%+v is not valid", s)
		}
		if s == greatestShape() {
			counts = append(counts, (12+9*64+4*12810+69)/70)
		}
		for _, x := range samples(s) {
			l := mustEncode(t, s, 1<<40+3, x)
			if len(l) != counts[i] || len(l) != s.Pages() {
				t.Fatalf("%+v has %d pages", s, len(l))
			}
			for _, b := range l {
				if len(b) != s.Block {
					t.Errorf("%+v has a page of %d bytes", s, len(b))
				}
			}
		}
	}
}

// P10.1: the least and the greatest numbers, and all bytes of them, are put and read again.
func TestNumbers(t *testing.T) {
	for _, s := range shapes() {
		for i := range 64 {
			for _, n := range []uint64{1 << i, 1<<i - 1, math.MaxUint64 << i} {
				x := sample(s)
				mustEncode(t, s, n, x)
				x.Seq = n
				mustEncode(t, s, 1, x)
				x.Segments[i%s.Segments].Born = n
				mustEncode(t, s, ^n, x)
			}
		}
		for n := -1; n < s.Segments; n++ {
			x := sample(s)
			x.Segment = n
			mustEncode(t, s, 2, x)
		}
		for n := range s.Stripes {
			x := sample(s)
			x.Index = n
			mustEncode(t, s, 3, x)
		}
		for i := range s.Segments {
			for n := range 3 {
				x := least(s)
				x.Segments[i].State = n
				mustEncode(t, s, 4, x)
			}
		}
		for i := range s.Logical {
			for _, n := range []int{-1, 0, 1, 2, places(s) / 2, places(s) - 2, places(s) - 1} {
				x := sample(s)
				x.Map[i] = n
				mustEncode(t, s, 5, x)
			}
		}
	}
}

// P10.1: each place that there is can be any block's.
func TestPlaces(t *testing.T) {
	for _, s := range shapes() {
		for n := range places(s) {
			x := least(s)
			x.Map[n%s.Logical] = n
			mustEncode(t, s, 6, x)
		}
	}
}

// P10.1: an image with another number of segments or blocks than the shape has no pages.
func TestOtherCounts(t *testing.T) {
	for _, s := range shapes() {
		for _, x := range []Image{{}, {Segments: []Segment{}, Map: []int{}}} {
			if l := Encode(s, 1, x); len(l) != 0 {
				t.Errorf("%+v has %d pages of an empty image", s, len(l))
			}
		}
		for _, n := range []int{0, 1, s.Segments - 1, s.Segments + 1, 2 * s.Segments, 65, 1000} {
			x := sample(s)
			x.Segments = make([]Segment, n)
			if l := Encode(s, 1, x); len(l) != 0 {
				t.Errorf("%+v has %d pages of an image with %d segments", s, len(l), n)
			}
		}
		for _, n := range []int{0, s.Logical - 1, s.Logical + 1, 2 * s.Logical, 1000} {
			x := sample(s)
			x.Map = make([]int, n)
			if l := Encode(s, 1, x); len(l) != 0 {
				t.Errorf("%+v has %d pages of an image with %d blocks", s, len(l), n)
			}
		}
		x := sample(s)
		x.Segments, x.Map = x.Segments[1:], append(x.Map, make([]int, 9)...)
		if l := Encode(s, 1, x); len(l) != 0 {
			t.Errorf("%+v has %d pages of an image of other counts", s, len(l))
		}
		mustEncode(t, s, 1, sample(s))
	}
}

// matching is an image that has as many segments and blocks as a shape, as far as there can be so many.
func matching(s geom.Shape) Image {
	bounded := func(n int) int { return min(max(n, 0), 1000) }
	return Image{Segments: make([]Segment, bounded(s.Segments)), Map: make([]int, bounded(s.Logical))}
}

// P10.1, R2: a shape that is not valid has no pages, and is ErrArg whatever the pages are.
func TestInvalidShapes(t *testing.T) {
	valid := shapes()[0]
	good := Encode(valid, 5, sample(valid))
	for _, s := range invalid() {
		if s.Check() != api.ErrArg {
			t.Fatalf("%+v is valid", s)
		}
		for _, x := range []Image{{}, sample(valid), matching(s)} {
			if l := Encode(s, 5, x); len(l) != 0 {
				t.Errorf("%+v has %d pages", s, len(l))
			}
		}
		for _, l := range [][][]byte{nil, {}, {nil}, good, good[:1], append(copyOf(good), nil), {{1}, {2}, {3}, {4}}} {
			mustFail(t, "an invalid shape", s, 5, l, api.ErrArg)
			mustFail(t, "an invalid shape", s, 6, l, api.ErrArg)
		}
	}
}

// P10.1, R2: fewer or more pages than the shape has, none and nil among them, are ErrSize, whatever they are.
func TestNumberOfPages(t *testing.T) {
	for _, s := range shapes() {
		good := Encode(s, 5, sample(s))
		mustFail(t, "nil", s, 5, nil, api.ErrSize)
		mustFail(t, "none", s, 5, [][]byte{}, api.ErrSize)
		for n := range len(good) {
			mustFail(t, "too few", s, 5, good[:n], api.ErrSize)
			mustFail(t, "too few", s, 5, good[len(good)-n:], api.ErrSize)
			mustFail(t, "too few", s, 6, make([][]byte, n), api.ErrSize)
			mustFail(t, "one twice", s, 5, slices.Insert(copyOf(good), n, slices.Clone(good[n])), api.ErrSize)
		}
		for _, more := range [][]byte{nil, {}, {1}, make([]byte, s.Block), good[0]} {
			mustFail(t, "too many", s, 5, append(copyOf(good), more), api.ErrSize)
			mustFail(t, "too many", s, 6, append([][]byte{more}, good...), api.ErrSize)
		}
		longer := pagesOf(s.Block, 5, append(flat(sample(s)), make([]byte, s.Page())...))
		mustFail(t, "a longer image", s, 5, longer, api.ErrSize)
		mustFail(t, "twice as many", s, 5, append(copyOf(good), good...), api.ErrSize)
		wrong := copyOf(good)[1:]
		for _, b := range wrong {
			b[0] ^= 1
		}
		mustFail(t, "too few, which are wrong", s, 5, wrong, api.ErrSize)
	}
}

// few are the shapes with at most six pages, for what is tried on every page and every bit.
func few() []geom.Shape {
	return slices.DeleteFunc(shapes(), func(s geom.Shape) bool { return s.Pages() > 6 })
}

// P10.1: a page that is shorter or longer than a block, empty and nil among them, is ErrSize, also if it is sealed.
func TestSizeOfAPage(t *testing.T) {
	for _, s := range few() {
		good := Encode(s, 5, sample(s))
		for i := range good {
			l := copyOf(good)
			l[i] = nil
			mustFail(t, "nil", s, 5, l, api.ErrSize)
			for size := range s.Block {
				l[i] = good[i][:size]
				mustFail(t, "a shorter page", s, 5, l, api.ErrSize)
				l[i] = seal(good[i][:max(size-4, 0)])
				mustFail(t, "a shorter page, sealed", s, 5, l, api.ErrSize)
				l[i] = make([]byte, size)
				mustFail(t, "fewer zeros", s, 5, l, api.ErrSize)
			}
			for _, more := range []int{1, 2, 4, 15, 512, 1 << 16} {
				l[i] = append(slices.Clone(good[i]), make([]byte, more)...)
				mustFail(t, "a longer page", s, 5, l, api.ErrSize)
				l[i] = seal(append(slices.Clone(good[i][:s.Block-4]), make([]byte, more)...))
				mustFail(t, "a longer page, sealed", s, 5, l, api.ErrSize)
			}
		}
	}
}

// P10.1: any one bit of any page turned is ErrSum.
func TestTurnedBits(t *testing.T) {
	for _, s := range few() {
		l := Encode(s, 5, sample(s))
		for i := range l {
			for bit := range 8 * s.Block {
				l[i][bit/8] ^= 1 << (bit % 8)
				mustFail(t, "a turned bit", s, 5, l, api.ErrSum)
				l[i][bit/8] ^= 1 << (bit % 8)
			}
		}
		mustDecode(t, s, 5, l, sample(s))
	}
}

// P10.1: no other sum does: of fewer bytes, of but the image's, highest byte first, not inverted.
func TestOtherSums(t *testing.T) {
	for _, s := range few() {
		good := Encode(s, 5, sample(s))
		for i, b := range good {
			end := len(b) - 4
			c := binary.LittleEndian.Uint32(b[end:])
			for what, other := range map[string]uint32{
				"none":           0,
				"all ones":       math.MaxUint32,
				"not inverted":   ^c,
				"one more":       c + 1,
				"one byte fewer": crc32.ChecksumIEEE(b[:end-1]),
				"but the first":  crc32.ChecksumIEEE(b[1:end]),
				"the image's":    crc32.ChecksumIEEE(b[11:end]),
				"of all":         crc32.ChecksumIEEE(b),
				"highest first":  c<<24 | c>>24 | c>>8&0xFF00 | c<<8&0xFF0000,
				"of another CRC": crc32.Checksum(b[:end], crc32.MakeTable(crc32.Castagnoli)),
			} {
				l := copyOf(good)
				binary.LittleEndian.PutUint32(l[i][end:], other)
				mustFail(t, "sum "+what, s, 5, l, api.ErrSum)
			}
			l := copyOf(good)
			clear(l[i])
			mustFail(t, "zeros", s, 5, l, api.ErrSum)
		}
	}
}

// P10.1: another first byte of any page is ErrForm, sealed as it may be.
func TestOtherMarks(t *testing.T) {
	for _, s := range few() {
		good := Encode(s, 5, sample(s))
		for i := range good {
			for mark := range 256 {
				l := copyOf(good)
				l[i][0] = byte(mark)
				reseal(l[i])
				if mark == 'P' {
					mustDecode(t, s, 5, l, sample(s))
				} else {
					mustFail(t, "another mark", s, 5, l, api.ErrForm)
				}
			}
		}
	}
}

// P10.1: another generation than that one is ErrForm, of all pages and of any one, whichever bit of it differs.
func TestOtherGenerations(t *testing.T) {
	for _, s := range few() {
		for _, gen := range []uint64{0, 1, 5, 1 << 63, math.MaxUint64} {
			good := Encode(s, gen, sample(s))
			for bit := range 64 {
				other := gen ^ 1<<bit
				mustFail(t, "asked for another generation", s, other, good, api.ErrForm)
				for i := range good {
					l := copyOf(good)
					l[i] = Encode(s, other, sample(s))[i]
					mustFail(t, "a page of another generation", s, gen, l, api.ErrForm)
				}
			}
			mustFail(t, "the generation before", s, gen-1, good, api.ErrForm)
			mustFail(t, "the generation after", s, gen+1, good, api.ErrForm)
		}
	}
}

// P10.1: another index of any page is ErrForm, and so are two pages that have changed places, though each is sealed.
func TestOtherIndexes(t *testing.T) {
	for _, s := range few() {
		good := Encode(s, 5, least(s))
		for i := range good {
			for bit := range 16 {
				l := copyOf(good)
				binary.LittleEndian.PutUint16(l[i][9:], uint16(i)^1<<bit)
				reseal(l[i])
				mustFail(t, "another index", s, 5, l, api.ErrForm)
			}
			for j := range i {
				l := copyOf(good)
				l[i], l[j] = l[j], l[i]
				mustFail(t, "changed places", s, 5, l, api.ErrForm)
				l[j] = l[i]
				mustFail(t, "one page twice", s, 5, l, api.ErrForm)
			}
		}
	}
}

// P10.1: a Segment that is not below Segments, and an Index that is not below Stripes, is ErrForm; the last ones below are right.
func TestSegmentAndIndex(t *testing.T) {
	for _, s := range shapes() {
		for n := range 1 << 16 {
			if n > 300 && n < 1<<16-10 && n&(n-1) != 0 {
				continue
			}
			x := sample(s)
			x.Segment = n - 1
			mustBeForm(t, "Segment", s, x, n-1 >= s.Segments)
			x = sample(s)
			x.Index = n
			mustBeForm(t, "Index", s, x, n >= s.Stripes)
		}
	}
}

// mustBeForm checks that the pages of an image are ErrForm if they are to be so, and are the image if not.
func mustBeForm(t *testing.T, what string, s geom.Shape, x Image, form bool) {
	t.Helper()
	if l := pagesOf(s.Block, 5, flat(x)); form {
		mustFail(t, what, s, 5, l, api.ErrForm)
	} else {
		mustDecode(t, s, 5, l, x)
	}
}

// P10.1: a State greater than 2 is ErrForm in any segment.
func TestStates(t *testing.T) {
	for _, s := range shapes() {
		for i := range s.Segments {
			for state := range 256 {
				x := sample(s)
				x.Segments[i].State = state
				mustBeForm(t, "State", s, x, state > 2)
			}
		}
	}
}

// P10.1: a place that is not below All*Slots is ErrForm for any block; the greatest that is below is right.
func TestPlacesTooGreat(t *testing.T) {
	for _, s := range shapes() {
		all := places(s)
		for i := range s.Logical {
			for _, place := range []int{all - 1, all, all + 1, 2 * all, 255, 256, 65535, 65536, 1 << 24, 1 << 31, 1<<31 - 2, 1<<32 - 2} {
				x := sample(s)
				x.Map[i] = place
				mustBeForm(t, "place", s, x, place >= all)
			}
		}
	}
}

// P10.1: any one byte after the image that is not zero is ErrForm; an image that ends with its last page has none.
func TestBytesAfterTheImage(t *testing.T) {
	full := 0
	for _, s := range shapes() {
		size := s.Pages() * (s.Block - 15)
		if size == len(flat(sample(s))) {
			full++
		}
		for _, x := range samples(s) {
			for at := len(flat(x)); at < size; at++ {
				for _, c := range []byte{1, 2, 'P', 0x7F, 0x80, 0xFF} {
					all := append(flat(x), make([]byte, size-len(flat(x)))...)
					all[at] = c
					mustFail(t, "a byte that is not zero", s, 5, pagesOf(s.Block, 5, all), api.ErrForm)
				}
			}
		}
	}
	if full != 4 {
		t.Errorf("%d shapes have a last page that is full", full)
	}
}

// faults makes pages wrong, one page each in a way of its own, in the order in which the errors come.
func faults() []func(b []byte) []byte {
	return []func(b []byte) []byte{
		func(b []byte) []byte { return b[:len(b)-1] },
		func(b []byte) []byte { b[len(b)-1] ^= 1; return b },
		func(b []byte) []byte { b[0] ^= 1; reseal(b); return b },
	}
}

// R2: of several pages that are wrong the first one gives the error, whatever is wrong in the others.
func TestPagesInOrder(t *testing.T) {
	errs := []api.Errno{api.ErrSize, api.ErrSum, api.ErrForm}
	for _, s := range few() {
		x := sample(s)
		x.Index = s.Stripes
		good := Encode(s, 5, x)
		mustFail(t, "an image that may not be", s, 5, good, api.ErrForm)
		for i := range good {
			for a, spoil := range faults() {
				l := copyOf(good)
				l[i] = spoil(l[i])
				mustFail(t, "one page", s, 5, l, errs[a])
				for j := i + 1; j < len(good); j++ {
					for _, other := range faults() {
						m := copyOf(l)
						m[j] = other(m[j])
						mustFail(t, "two pages", s, 5, m, errs[a])
					}
				}
			}
		}
	}
}

// R2: of one page the size comes ahead of the sum, the sum ahead of the form; all that ahead of what the image says, and behind the shape and the number of pages.
func TestOrderOfErrors(t *testing.T) {
	for _, s := range few() {
		x := sample(s)
		x.Segment = s.Segments
		for i := range s.Pages() {
			l := Encode(s, 5, x)
			mustFail(t, "the image", s, 5, l, api.ErrForm)
			l[i][0] ^= 1
			mustFail(t, "form and sum", s, 5, l, api.ErrSum)
			l[i] = append(l[i], 0)
			mustFail(t, "form, sum and size", s, 5, l, api.ErrSize)
			mustFail(t, "form, sum, size and number", s, 5, append(l, nil), api.ErrSize)
			bad := s
			bad.Nv = 0
			mustFail(t, "all", bad, 5, append(l, nil), api.ErrArg)
		}
	}
}

// R5: pages that are decoded stay as they are, with their spare capacity, which does not count; an image that was returned stays when they change.
func TestDecodeLeavesItsArgument(t *testing.T) {
	for _, s := range few() {
		for turned := -1; turned < s.Pages(); turned++ {
			whole := make([][]byte, 0, s.Pages()+2)
			for _, b := range Encode(s, 5, sample(s)) {
				whole = append(whole, append(b, bytes.Repeat([]byte{0xAA}, 40)...)[:s.Block])
			}
			if turned >= 0 {
				whole[turned][12] ^= 1
			}
			spare := whole[:cap(whole)]
			spare[s.Pages()] = []byte{7}
			was := copyOf(spare)
			mustStay := func(n int, gen uint64) {
				Decode(s, gen, whole[:n])
				for i, b := range whole {
					if !bytes.Equal(b[s.Block:s.Block+40], bytes.Repeat([]byte{0xAA}, 40)) {
						t.Fatalf("Decode changed what is behind page %d", i)
					}
				}
				if !equal(spare, was) {
					t.Fatalf("Decode of %d pages changed what it was given", n)
				}
			}
			for n := range s.Pages() + 1 {
				mustStay(n, 5)
				mustStay(n, 6)
			}
			x, err := Decode(s, 5, whole)
			for _, b := range whole {
				clear(b)
			}
			if turned < 0 && (err != api.OK || !same(x, sample(s))) {
				t.Errorf("%s became %s with the pages", brief(sample(s)), brief(x))
			}
		}
	}
}

// R5, R6: an image that was returned is new each time: changing one, or its spare capacity, changes neither the pages nor another image.
func TestDecodeIsNew(t *testing.T) {
	for _, s := range few() {
		l := Encode(s, 5, sample(s))
		was := copyOf(l)
		one, _ := Decode(s, 5, l)
		two, _ := Decode(s, 5, l)
		for i := range one.Segments[:cap(one.Segments)] {
			one.Segments[:cap(one.Segments)][i] = Segment{77, 77}
		}
		for i := range one.Map[:cap(one.Map)] {
			one.Map[:cap(one.Map)][i] = 7777
		}
		if !same(two, sample(s)) || !equal(l, was) {
			t.Errorf("%s changed with another image", brief(two))
		}
		mustDecode(t, s, 5, l, sample(s))
	}
}

// R5: an image that is encoded stays as it is, with the spare capacity of its lists, which does not count; the pages stay when the image changes.
func TestEncodeLeavesItsArgument(t *testing.T) {
	for _, s := range shapes() {
		x := sample(s)
		segments := append(slices.Clone(x.Segments), Segment{2, 99}, Segment{1, 98})
		spots := append(slices.Clone(x.Map), 97, 96, 95)
		y := cloned(x)
		y.Segments, y.Map = segments[:len(x.Segments)], spots[:len(x.Map)]
		l := Encode(s, 5, y)
		if !same(x, y) || !slices.Equal(segments[len(x.Segments):], []Segment{{2, 99}, {1, 98}}) || !slices.Equal(spots[len(x.Map):], []int{97, 96, 95}) {
			t.Errorf("Encode changed %s to %s", brief(x), brief(y))
		}
		clear(segments)
		clear(spots)
		if !equal(l, pagesOf(s.Block, 5, flat(x))) {
			t.Errorf("the pages of %s changed with it", brief(x))
		}
	}
}

// R5, R6: the pages are new each time, and none shares anything with another one: changing one, or its spare capacity, changes no other.
func TestEncodeIsNew(t *testing.T) {
	for _, s := range few() {
		x := sample(s)
		want := pagesOf(s.Block, 5, flat(x))
		two := Encode(s, 5, x)
		for i := range want {
			one := Encode(s, 5, x)
			all := one[i][:cap(one[i])]
			for k := range all {
				all[k] = 0xEE
			}
			for j := range one {
				if j != i && !bytes.Equal(one[j], want[j]) {
					t.Errorf("page %d of %+v changed with page %d", j, s, i)
				}
			}
			clear(one[:cap(one)])
		}
		if !equal(two, want) || !same(x, sample(s)) {
			t.Errorf("pages of %+v changed with others", s)
		}
		mustEncode(t, s, 5, x)
	}
}

// P1: Encode panics for no image: numbers that their bytes do not hold are put as their lowest bytes; and Decode panics for none of these results.
func TestEncodeOfAnything(t *testing.T) {
	numbers := []int{0, 1, -1, -2, 2, 3, 255, 256, 65534, 65535, 65536, 1 << 32, 1<<32 - 1, 1 << 62, math.MinInt, math.MinInt + 1, math.MaxInt - 1, math.MaxInt}
	for _, s := range shapes() {
		for _, n := range numbers {
			for _, m := range numbers {
				x := sample(s)
				x.Seq, x.Segment, x.Index = uint64(m), n, m
				x.Segments[m&3] = Segment{State: n, Born: uint64(m)}
				x.Map[0] = m
				l := Encode(s, uint64(n), x)
				if !equal(l, pagesOf(s.Block, uint64(n), flat(x))) {
					t.Errorf("Encode(%+v, %d, %s) has not the lowest bytes of its numbers", s, n, brief(x))
				}
				mustAgree(t, s, uint64(n), l)
			}
		}
	}
}

// expected is an independent statement of what Decode returns: pages have an image if they are those of a valid one.
func expected(s geom.Shape, gen uint64, l [][]byte) (Image, api.Errno) {
	if s.Check() != api.OK {
		return Image{}, api.ErrArg
	}
	size := 12 + 9*s.Segments + 4*s.Logical
	if len(l) != (size+s.Block-16)/(s.Block-15) {
		return Image{}, api.ErrSize
	}
	var all []byte
	for i, b := range l {
		if len(b) != s.Block {
			return Image{}, api.ErrSize
		}
		if binary.LittleEndian.Uint32(b[len(b)-4:]) != crc32.ChecksumIEEE(b[:len(b)-4]) {
			return Image{}, api.ErrSum
		}
		if b[0] != 'P' || binary.LittleEndian.Uint64(b[1:]) != gen || int(b[9])+int(b[10])*256 != i {
			return Image{}, api.ErrForm
		}
		all = append(all, b[11:len(b)-4]...)
	}
	x := Image{Seq: binary.LittleEndian.Uint64(all), Segment: int(binary.LittleEndian.Uint16(all[8:])) - 1, Index: int(binary.LittleEndian.Uint16(all[10:]))}
	good := x.Segment < s.Segments && x.Index < s.Stripes
	for at := 12; len(x.Segments) < s.Segments; at += 9 {
		x.Segments = append(x.Segments, Segment{int(all[at]), binary.LittleEndian.Uint64(all[at+1:])})
		good = good && all[at] < 3
	}
	for at := 12 + 9*s.Segments; len(x.Map) < s.Logical; at += 4 {
		place := int(binary.LittleEndian.Uint32(all[at:])) - 1
		x.Map = append(x.Map, place)
		good = good && place < places(s)
	}
	if !good || !equal(l, pagesOf(s.Block, gen, flat(x))) {
		return Image{}, api.ErrForm
	}
	return x, api.OK
}

// mustAgree checks Decode against the independent statement of it.
func mustAgree(t *testing.T, s geom.Shape, gen uint64, l [][]byte) api.Errno {
	t.Helper()
	want, wantErr := expected(s, gen, l)
	x, err := Decode(s, gen, l)
	if !same(x, want) || err != wantErr {
		t.Fatalf("Decode(%+v, %d, %s) = %s, %d, not %s, %d", s, gen, brief(l), brief(x), err, brief(want), wantErr)
	}
	return err
}

// anyShape makes a valid shape, or now and then one that is not.
func anyShape(r *rand.Rand) geom.Shape {
	s := geom.Shape{Members: 3 + r.Intn(14), Segments: 4 + r.Intn(5), Stripes: 2 + r.Intn(6)}
	s.Block = max(32, s.Note()) + r.Intn(100)
	s.Nv = s.Slots() * (1 + r.Intn(2))
	s.Logical = 1 + r.Intn(min(s.Most(), 60))
	if r.Intn(10) == 0 {
		n := []int{0, -1, 1, 1000, math.MinInt, math.MaxInt}[r.Intn(6)]
		*[]*int{&s.Members, &s.Block, &s.Segments, &s.Stripes, &s.Nv, &s.Logical}[r.Intn(6)] = n
	}
	return s
}

// anyImage makes a valid image of a valid shape.
func anyImage(r *rand.Rand, s geom.Shape) Image {
	x := Image{Seq: r.Uint64() >> r.Intn(64), Segment: r.Intn(s.Segments+1) - 1, Index: r.Intn(s.Stripes)}
	for range s.Segments {
		x.Segments = append(x.Segments, Segment{r.Intn(3), r.Uint64() >> r.Intn(64)})
	}
	for range s.Logical {
		x.Map = append(x.Map, r.Intn(places(s)+1)-1)
	}
	return x
}

// anyPages makes pages of any kind, any number and any length, some of them as many and as long as the shape's.
func anyPages(r *rand.Rand, s geom.Shape) [][]byte {
	l := make([][]byte, r.Intn(5))
	if s.Check() == api.OK && r.Intn(2) == 0 {
		l = make([][]byte, s.Pages())
	}
	for i := range l {
		size := r.Intn(100)
		if r.Intn(10) > 0 {
			size = min(max(s.Block, 0), 600)
		}
		l[i] = make([]byte, size)
		r.Read(l[i])
		if size >= 4 && r.Intn(2) == 0 {
			reseal(l[i])
		}
	}
	return l
}

// spoiled changes some bytes of some pages, and seals some anew.
func spoiled(r *rand.Rand, l [][]byte) [][]byte {
	l = copyOf(l)
	for range r.Intn(3) {
		b := l[r.Intn(len(l))]
		b[r.Intn(len(b))] = byte(r.Intn(5))
		if r.Intn(4) > 0 {
			reseal(b)
		}
	}
	if r.Intn(20) == 0 {
		i := r.Intn(len(l))
		l[i] = l[i][:r.Intn(len(l[i])+1)]
	}
	return l
}

// P10.1, P1: pages of any kind with any shape, and pages of images with some bytes changed, are read as stated.
func TestRandom(t *testing.T) {
	r := rand.New(rand.NewSource(10))
	seen := map[api.Errno]int{}
	for range 8000 {
		s := anyShape(r)
		gen := r.Uint64() >> r.Intn(64)
		seen[mustAgree(t, s, gen, anyPages(r, s))]++
		if s.Check() != api.OK {
			continue
		}
		l := mustEncode(t, s, gen, anyImage(r, s))
		seen[mustAgree(t, s, gen, l)]++
		for range 4 {
			seen[mustAgree(t, s, gen, spoiled(r, l))]++
		}
		seen[mustAgree(t, anyShape(r), gen, l)]++
	}
	for _, err := range []api.Errno{api.OK, api.ErrArg, api.ErrSize, api.ErrSum, api.ErrForm} {
		if seen[err] < 500 {
			t.Errorf("error %d was seen only %d times", err, seen[err])
		}
	}
}
