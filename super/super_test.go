package super

import (
	"bytes"
	"encoding/binary"
	"hash/crc32"
	"math"
	"math/rand"
	"slices"
	"testing"

	"drystone/api"
	"drystone/geom"
)

// first is how many bytes a label has, with its sum.
const first = 22

// least is a label of which each number is the least one.
func least() Label {
	return Label{Shape: geom.Shape{Members: 3, Block: 32, Segments: 4, Stripes: 2, Nv: 1, Logical: 1}}
}

// greatest is a label of which each number is the greatest one.
func greatest() Label {
	return Label{Shape: geom.Shape{Members: 16, Block: 512, Segments: 64, Stripes: 16, Nv: 224, Logical: 12810}, Member: 15}
}

// middle is a label of numbers that all differ, one of them of two bytes.
func middle() Label {
	return Label{Shape: geom.Shape{Members: 6, Block: 300, Segments: 9, Stripes: 5, Nv: 7, Logical: 53}, Member: 4}
}

// samples are labels of the least, the middle and the greatest numbers, and of the least block that 16 members can have.
func samples() []Label {
	narrow := greatest()
	narrow.Shape.Block = 85
	return []Label{least(), middle(), greatest(), narrow}
}

// shapes makes valid ones: for every number of members, with few and many of everything else.
func shapes() []geom.Shape {
	var list []geom.Shape
	for members := 3; members <= 16; members++ {
		slots := members - 2
		for _, block := range []int{max(32, 15+5*slots), 255, 256, 512} {
			for _, segments := range []int{4, 64} {
				for _, stripes := range []int{2, 3, 16} {
					for _, nv := range []int{slots, stripes * slots} {
						for _, logical := range []int{1, (segments - 3) * (stripes - 1) * slots} {
							list = append(list, geom.Shape{Members: members, Block: block, Segments: segments, Stripes: stripes, Nv: nv, Logical: logical})
						}
					}
				}
			}
		}
	}
	return list
}

// sealed is an independent statement of a label's first 22 bytes, with any number at its beginning.
func sealed(mark uint32, x Label) []byte {
	b := binary.LittleEndian.AppendUint32(nil, mark)
	b = append(b, byte(x.Member), byte(x.Shape.Members))
	for _, n := range []int{x.Shape.Block, x.Shape.Segments, x.Shape.Stripes, x.Shape.Nv} {
		b = binary.LittleEndian.AppendUint16(b, uint16(n))
	}
	b = binary.LittleEndian.AppendUint32(b, uint32(x.Shape.Logical))
	return binary.LittleEndian.AppendUint32(b, crc32.ChecksumIEEE(b))
}

// padded is bytes with zeros behind them, size bytes in all.
func padded(b []byte, size int) []byte {
	return append(slices.Clone(b), make([]byte, size-len(b))...)
}

// sector is an independent statement of a label's sector.
func sector(x Label) []byte {
	return padded(sealed(0x31534452, x), x.Shape.Block)
}

// reseal puts the sum of the first 18 bytes behind them.
func reseal(b []byte) {
	binary.LittleEndian.PutUint32(b[first-4:], crc32.ChecksumIEEE(b[:first-4]))
}

// mustFail checks that bytes have an error, and no label beside it.
func mustFail(t *testing.T, what string, b []byte, want api.Errno) {
	t.Helper()
	if x, err := Decode(b); err != want || x != (Label{}) {
		t.Errorf("%s: Decode of %d bytes = %+v, %d, not %d", what, len(b), x, err, want)
	}
}

// mustDecode checks that bytes have a label.
func mustDecode(t *testing.T, b []byte, want Label) {
	t.Helper()
	if x, err := Decode(b); err != api.OK || x != want {
		t.Errorf("Decode of the sector of %+v = %+v, %d", want, x, err)
	}
}

// fields are a label's numbers, with the number of bits that each has in a sector.
var fields = []struct {
	name string
	bits int
	of   func(x *Label) *int
}{
	{"Member", 8, func(x *Label) *int { return &x.Member }},
	{"Members", 8, func(x *Label) *int { return &x.Shape.Members }},
	{"Block", 16, func(x *Label) *int { return &x.Shape.Block }},
	{"Segments", 16, func(x *Label) *int { return &x.Shape.Segments }},
	{"Stripes", 16, func(x *Label) *int { return &x.Shape.Stripes }},
	{"Nv", 16, func(x *Label) *int { return &x.Shape.Nv }},
	{"Logical", 32, func(x *Label) *int { return &x.Shape.Logical }},
}

// P8.1: the chapter's example: a label of 32 bytes ends with ten zeros, and has none just ahead of them.
func TestExample(t *testing.T) {
	for _, member := range []int{0, 1, 2} {
		x := least()
		x.Member = member
		b := Encode(x)
		if len(b) != 32 || !bytes.Equal(b[22:], make([]byte, 10)) || b[21] == 0 {
			t.Errorf("the label of member %d is %v", member, b)
		}
	}
}

// P8.1: sectors written out byte for byte; each is read again.
func TestSectors(t *testing.T) {
	for _, c := range []struct {
		x    Label
		want []byte
	}{
		{
			Label{geom.Shape{Members: 3, Block: 32, Segments: 4, Stripes: 2, Nv: 1, Logical: 1}, 0},
			[]byte{0x52, 0x44, 0x53, 0x31, 0, 3, 32, 0, 4, 0, 2, 0, 1, 0, 1, 0, 0, 0, 0xD3, 0x68, 0xB7, 0xD1},
		},
		{
			Label{geom.Shape{Members: 3, Block: 32, Segments: 4, Stripes: 2, Nv: 2, Logical: 1}, 2},
			[]byte{0x52, 0x44, 0x53, 0x31, 2, 3, 32, 0, 4, 0, 2, 0, 2, 0, 1, 0, 0, 0, 0xD0, 0xDE, 0x4D, 0xB6},
		},
		{
			Label{geom.Shape{Members: 5, Block: 300, Segments: 9, Stripes: 4, Nv: 7, Logical: 53}, 4},
			[]byte{0x52, 0x44, 0x53, 0x31, 4, 5, 0x2C, 1, 9, 0, 4, 0, 7, 0, 53, 0, 0, 0, 0x88, 0xA4, 0xFB, 0x36},
		},
		{
			Label{geom.Shape{Members: 16, Block: 512, Segments: 64, Stripes: 16, Nv: 224, Logical: 12810}, 15},
			[]byte{0x52, 0x44, 0x53, 0x31, 15, 16, 0, 2, 64, 0, 16, 0, 224, 0, 0x0A, 0x32, 0, 0, 0x5C, 0x9B, 0x8A, 0x4A},
		},
	} {
		want := padded(c.want, c.x.Shape.Block)
		if got := Encode(c.x); !bytes.Equal(got, want) {
			t.Errorf("Encode(%+v) = %v, not %v", c.x, got, want)
		}
		mustDecode(t, want, c.x)
	}
}

// P8.1: for valid shapes, the smallest and the greatest among them, the sector is as stated for each member from 0 to 255; it is read again where the shape has that member, and is ErrForm where it has not.
func TestEveryMember(t *testing.T) {
	for _, s := range shapes() {
		if s.Check() != api.OK {
			t.Fatalf("%+v is not valid", s)
		}
		for member := range 256 {
			x := Label{Shape: s, Member: member}
			b := Encode(x)
			if !bytes.Equal(b, sector(x)) {
				t.Fatalf("Encode(%+v) = %v, not %v", x, b, sector(x))
			}
			if member < s.Members {
				mustDecode(t, b, x)
			} else {
				mustFail(t, "a member that there is not", b, api.ErrForm)
			}
		}
	}
}

// P8.1: fewer than 22 bytes, none and nil among them, are ErrSize, also where they are sealed, or neither sealed nor of the form.
func TestTooFew(t *testing.T) {
	mustFail(t, "nil", nil, api.ErrSize)
	mustFail(t, "none", []byte{}, api.ErrSize)
	for _, x := range samples() {
		for size := range first {
			mustFail(t, "the beginning of a sector", Encode(x)[:size], api.ErrSize)
		}
	}
	for size := range first {
		mustFail(t, "zeros", make([]byte, size), api.ErrSize)
		mustFail(t, "ones", bytes.Repeat([]byte{0xFF}, size), api.ErrSize)
		if size >= 4 {
			b := sealed(0x31534452, least())[:size-4]
			mustFail(t, "sealed bytes", binary.LittleEndian.AppendUint32(b, crc32.ChecksumIEEE(b)), api.ErrSize)
		}
	}
}

// P8.1: from 22 bytes on the sum is asked, and with it right the form, since no valid shape has blocks of fewer than 32 bytes.
func TestJustEnough(t *testing.T) {
	for _, x := range samples() {
		for size := first; size < 32; size++ {
			b := Encode(x)[:size]
			mustFail(t, "the beginning of a sector", b, api.ErrForm)
			b[7] ^= 1
			mustFail(t, "the beginning of a sector, changed", b, api.ErrSum)
		}
	}
}

// P8.1, R2: with any one bit of the first 22 bytes turned it is ErrSum, whatever that makes of the form, and whatever the number of bytes and what follows are.
func TestTurnedBits(t *testing.T) {
	for _, x := range samples() {
		for bit := range first * 8 {
			b := Encode(x)
			b[bit/8] ^= 1 << (bit % 8)
			mustFail(t, "a turned bit", b, api.ErrSum)
			mustFail(t, "a turned bit in fewer bytes", b[:len(b)-1], api.ErrSum)
			mustFail(t, "a turned bit in 22 bytes", b[:first], api.ErrSum)
			mustFail(t, "a turned bit in more bytes", append(b, 0), api.ErrSum)
			b[len(b)-1] = 1
			mustFail(t, "a turned bit, and no zero at the end", b, api.ErrSum)
		}
	}
}

// P8.1: no other sum does: of fewer or more bytes, highest byte first, not inverted, or one that is at the end of the sector.
func TestOtherSums(t *testing.T) {
	for _, x := range samples() {
		good := Encode(x)
		c := binary.LittleEndian.Uint32(good[18:])
		for what, other := range map[string]uint32{
			"none":           0,
			"all ones":       math.MaxUint32,
			"not inverted":   ^c,
			"one less":       c - 1,
			"of 17 bytes":    crc32.ChecksumIEEE(good[:17]),
			"but the first":  crc32.ChecksumIEEE(good[1:18]),
			"of four zeros":  crc32.ChecksumIEEE(padded(good[:18], 22)),
			"of all":         crc32.ChecksumIEEE(padded(good[:18], len(good))),
			"of another CRC": crc32.Checksum(good[:18], crc32.MakeTable(crc32.Castagnoli)),
		} {
			b := slices.Clone(good)
			binary.LittleEndian.PutUint32(b[18:], other)
			mustFail(t, "sum "+what, b, api.ErrSum)
		}
		b := slices.Clone(good)
		binary.BigEndian.PutUint32(b[18:], c)
		mustFail(t, "highest byte first", b, api.ErrSum)
		b = padded(good[:18], len(good))
		binary.LittleEndian.PutUint32(b[len(b)-4:], crc32.ChecksumIEEE(b[:len(b)-4]))
		mustFail(t, "sum at the end", b, api.ErrSum)
	}
	for _, size := range []int{22, 23, 32, 512, 513} {
		mustFail(t, "zeros", make([]byte, size), api.ErrSum)
		mustFail(t, "ones", bytes.Repeat([]byte{0xFF}, size), api.ErrSum)
	}
}

// P8.1: another first number is ErrForm, sealed as it may be.
func TestOtherMarks(t *testing.T) {
	marks := []uint32{0, 1, 0x31534451, 0x31534453, 0x52445331, 0x3153, 0x4452, math.MaxUint32}
	for bit := range 32 {
		marks = append(marks, 0x31534452^1<<bit)
	}
	for _, x := range samples() {
		mustDecode(t, padded(sealed(0x31534452, x), x.Shape.Block), x)
		for _, mark := range marks {
			mustFail(t, "another mark", padded(sealed(mark, x), x.Shape.Block), api.ErrForm)
		}
	}
}

// P8.1: each number of a label, with any value that its bytes can have, is ErrForm if the shape is not valid or has no such member, and the label otherwise.
func TestEachNumber(t *testing.T) {
	for _, x := range samples() {
		for _, field := range fields {
			values := []int{1 << (field.bits - 1), 1<<field.bits - 1, 1<<field.bits - 2}
			for bit := range field.bits {
				values = append(values, *field.of(&x)^1<<bit)
			}
			for n := range min(1<<field.bits, 600) {
				values = append(values, n)
			}
			for _, n := range values {
				y := x
				*field.of(&y) = n
				b := padded(sealed(0x31534452, y), max(first, min(y.Shape.Block, 1<<16)))
				if y.Shape.Check() == api.OK && y.Member < y.Shape.Members {
					mustDecode(t, b, y)
				} else {
					mustFail(t, field.name, b, api.ErrForm)
				}
			}
		}
	}
}

// P8.1: shapes that are just not valid are ErrForm, and those beside them are not.
func TestBounds(t *testing.T) {
	for _, c := range []struct {
		name      string
		good, bad geom.Shape
	}{
		{"members, fewer", geom.Shape{Members: 3, Block: 32, Segments: 4, Stripes: 2, Nv: 1, Logical: 1}, geom.Shape{Members: 2, Block: 32, Segments: 4, Stripes: 2, Nv: 1, Logical: 1}},
		{"members, more", geom.Shape{Members: 16, Block: 512, Segments: 4, Stripes: 16, Nv: 15, Logical: 1}, geom.Shape{Members: 17, Block: 512, Segments: 4, Stripes: 16, Nv: 15, Logical: 1}},
		{"segments, fewer", geom.Shape{Members: 3, Block: 32, Segments: 4, Stripes: 2, Nv: 1, Logical: 1}, geom.Shape{Members: 3, Block: 32, Segments: 3, Stripes: 2, Nv: 1, Logical: 1}},
		{"segments, more", geom.Shape{Members: 3, Block: 32, Segments: 64, Stripes: 2, Nv: 1, Logical: 1}, geom.Shape{Members: 3, Block: 32, Segments: 65, Stripes: 2, Nv: 1, Logical: 1}},
		{"stripes, fewer", geom.Shape{Members: 3, Block: 32, Segments: 4, Stripes: 2, Nv: 1, Logical: 1}, geom.Shape{Members: 3, Block: 32, Segments: 4, Stripes: 1, Nv: 1, Logical: 1}},
		{"stripes, more", geom.Shape{Members: 3, Block: 32, Segments: 4, Stripes: 16, Nv: 1, Logical: 1}, geom.Shape{Members: 3, Block: 32, Segments: 4, Stripes: 17, Nv: 1, Logical: 1}},
		{"block, less than 32", geom.Shape{Members: 3, Block: 32, Segments: 4, Stripes: 2, Nv: 1, Logical: 1}, geom.Shape{Members: 3, Block: 31, Segments: 4, Stripes: 2, Nv: 1, Logical: 1}},
		{"block, less than a note", geom.Shape{Members: 16, Block: 85, Segments: 4, Stripes: 2, Nv: 14, Logical: 1}, geom.Shape{Members: 16, Block: 84, Segments: 4, Stripes: 2, Nv: 14, Logical: 1}},
		{"block, more", geom.Shape{Members: 3, Block: 512, Segments: 4, Stripes: 2, Nv: 1, Logical: 1}, geom.Shape{Members: 3, Block: 513, Segments: 4, Stripes: 2, Nv: 1, Logical: 1}},
		{"records, fewer", geom.Shape{Members: 5, Block: 32, Segments: 4, Stripes: 2, Nv: 3, Logical: 1}, geom.Shape{Members: 5, Block: 32, Segments: 4, Stripes: 2, Nv: 2, Logical: 1}},
		{"records, more", geom.Shape{Members: 5, Block: 32, Segments: 4, Stripes: 2, Nv: 6, Logical: 1}, geom.Shape{Members: 5, Block: 32, Segments: 4, Stripes: 2, Nv: 7, Logical: 1}},
		{"blocks, none", geom.Shape{Members: 3, Block: 32, Segments: 4, Stripes: 2, Nv: 1, Logical: 1}, geom.Shape{Members: 3, Block: 32, Segments: 4, Stripes: 2, Nv: 1, Logical: 0}},
		{"blocks, more", geom.Shape{Members: 16, Block: 512, Segments: 64, Stripes: 16, Nv: 224, Logical: 12810}, geom.Shape{Members: 16, Block: 512, Segments: 64, Stripes: 16, Nv: 224, Logical: 12811}},
	} {
		mustDecode(t, sector(Label{Shape: c.good}), Label{Shape: c.good})
		mustFail(t, c.name, sector(Label{Shape: c.bad}), api.ErrForm)
	}
}

// P8.1: fewer or more bytes than Block are ErrForm, though all of those after the first 22 are zeros.
func TestOtherSizes(t *testing.T) {
	for _, x := range samples() {
		whole := padded(Encode(x), 70000)
		for _, size := range []int{1024, 4096, 65536, 65536 + x.Shape.Block, 70000} {
			mustFail(t, "more bytes", whole[:size], api.ErrForm)
		}
		for size := first; size <= 600; size++ {
			if size == x.Shape.Block {
				mustDecode(t, whole[:size], x)
			} else {
				mustFail(t, "another number of bytes", whole[:size], api.ErrForm)
			}
		}
	}
}

// P8.1: any one byte after the first 22 that is not zero is ErrForm.
func TestNoZeros(t *testing.T) {
	for _, x := range samples() {
		for i := first; i < x.Shape.Block; i++ {
			for _, c := range []byte{1, 2, 0x7F, 0x80, 0xFF} {
				b := Encode(x)
				b[i] = c
				mustFail(t, "a byte that is not zero", b, api.ErrForm)
			}
		}
	}
}

// R5: bytes that are decoded stay as they are, and so do those behind them, which do not count; a label that was returned stays when they change.
func TestDecodeLeavesItsArgument(t *testing.T) {
	for _, x := range samples() {
		for _, turned := range []int{-1, 0, 20, 22} {
			whole := append(Encode(x), bytes.Repeat([]byte{0xAA}, 40)...)
			if turned >= 0 {
				whole[turned] ^= 1
			}
			was := slices.Clone(whole)
			for _, size := range []int{x.Shape.Block, 0, 21, 22, 25} {
				Decode(whole[:size])
				if !bytes.Equal(whole, was) {
					t.Fatalf("Decode of %d bytes changed what it was given", size)
				}
			}
			if turned < 0 {
				y, _ := Decode(whole[:x.Shape.Block])
				clear(whole)
				if y != x {
					t.Errorf("%+v became %+v with the bytes", x, y)
				}
			}
		}
	}
}

// R5, R6: a sector is new each time: changing one, or its spare capacity, changes neither an earlier nor a later one.
func TestEncodeIsNew(t *testing.T) {
	for _, x := range samples() {
		given := x
		one, two := Encode(x), Encode(x)
		all := one[:cap(one)]
		for i := range all {
			all[i] = 0xEE
		}
		if !bytes.Equal(two, sector(x)) {
			t.Errorf("a sector of %+v changed with another one", x)
		}
		if got := Encode(x); !bytes.Equal(got, sector(x)) {
			t.Errorf("Encode(%+v) = %v the third time", x, got)
		}
		if x != given {
			t.Errorf("%+v became %+v", given, x)
		}
	}
}

// P1: Encode panics for no label, though nothing is promised of its result if the shape is not valid or there is no byte for the member; and Decode panics for none of these results.
func TestEncodeOfAnything(t *testing.T) {
	numbers := []int{0, 1, -1, 21, 22, 23, 255, 256, 65535, 65536, 1 << 20, 1 << 32, 1 << 62, math.MinInt, math.MaxInt}
	for _, base := range append(samples(), Label{}) {
		for i, one := range fields {
			for _, n := range numbers {
				x := base
				*one.of(&x) = n
				Decode(Encode(x))
				y := x
				*fields[(i+2)%len(fields)].of(&y) = n
				Decode(Encode(y))
			}
		}
	}
}

// expected is an independent statement of what Decode returns: bytes have a label if they are its sector.
func expected(b []byte) (Label, api.Errno) {
	if len(b) < first {
		return Label{}, api.ErrSize
	}
	if binary.LittleEndian.Uint32(b[18:]) != crc32.ChecksumIEEE(b[:18]) {
		return Label{}, api.ErrSum
	}
	two := func(i int) int { return int(binary.LittleEndian.Uint16(b[i:])) }
	x := Label{Member: int(b[4]), Shape: geom.Shape{Members: int(b[5]), Block: two(6), Segments: two(8), Stripes: two(10), Nv: two(12), Logical: int(binary.LittleEndian.Uint32(b[14:]))}}
	if x.Shape.Check() != api.OK || x.Member >= x.Shape.Members || !bytes.Equal(b, sector(x)) {
		return Label{}, api.ErrForm
	}
	return x, api.OK
}

// mustAgree checks Decode against the independent statement of it.
func mustAgree(t *testing.T, b []byte) api.Errno {
	t.Helper()
	want, wantErr := expected(b)
	got, err := Decode(b)
	if got != want || err != wantErr {
		t.Fatalf("Decode(%v) = %+v, %d, not %+v, %d", b, got, err, want, wantErr)
	}
	return err
}

// P8.1, P1: bytes of any kind and any length, sealed or not, and sectors with some bytes changed, are read as stated.
func TestRandom(t *testing.T) {
	r := rand.New(rand.NewSource(8))
	list := shapes()
	seen := map[api.Errno]int{}
	for range 30000 {
		b := make([]byte, r.Intn(60))
		r.Read(b)
		seen[mustAgree(t, b)]++
		if len(b) >= first {
			reseal(b)
			seen[mustAgree(t, b)]++
		}
		s := list[r.Intn(len(list))]
		b = Encode(Label{Shape: s, Member: r.Intn(s.Members + 2)})
		seen[mustAgree(t, b)]++
		for range r.Intn(3) {
			b[r.Intn(len(b))] = byte(r.Intn(20))
		}
		for range r.Intn(3) {
			b[r.Intn(18)] ^= 1 << r.Intn(8)
		}
		seen[mustAgree(t, b)]++
		reseal(b)
		seen[mustAgree(t, b)]++
		seen[mustAgree(t, b[:r.Intn(len(b))])]++
	}
	for _, err := range []api.Errno{api.OK, api.ErrSize, api.ErrSum, api.ErrForm} {
		if seen[err] < 1000 {
			t.Errorf("error %d was seen only %d times", err, seen[err])
		}
	}
}
