package note

import (
	"bytes"
	"encoding/binary"
	"fmt"
	"hash/crc32"
	"math"
	"math/rand"
	"slices"
	"testing"

	"drystone/api"
	"drystone/nv"
)

// need is how many bytes a note of so many slots has, with its sum.
func need(slots int) int {
	return 15 + 5*slots
}

// many is a note of so many slots, of all kinds.
func many(slots int) Note {
	x := Note{Seq: uint64(slots)*1000003 + 1, Next: slots % 64}
	for i := range slots {
		e := Entry{Kind: nv.Kind((i + slots) % 4), Lba: (1 + 70001*i) % (1 << 32)}
		if e.Kind == nv.None {
			e.Lba = 0
		}
		x.Slots = append(x.Slots, e)
	}
	return x
}

// samples are notes without slots, with one of each kind, and with several, of the least and the greatest numbers.
func samples() []Note {
	return []Note{
		{},
		{Next: -1},
		{Seq: 258, Next: 3, Slots: []Entry{{nv.Move, 7}}},
		{Seq: 1, Slots: []Entry{{nv.None, 0}}},
		{Seq: 2, Slots: []Entry{{nv.Write, 0}}},
		{Seq: 3, Slots: []Entry{{nv.Trim, math.MaxUint32}}},
		{Seq: math.MaxUint64, Next: 65534, Slots: []Entry{{nv.Trim, 1}, {nv.None, 0}}},
		many(4),
		many(14),
	}
}

// seal puts the sum of bytes behind them.
func seal(b []byte) []byte {
	return binary.LittleEndian.AppendUint32(slices.Clone(b), crc32.ChecksumIEEE(b))
}

// sealed is an independent statement of a note's bytes up to its sum, with any byte at its beginning.
func sealed(mark byte, x Note) []byte {
	b := binary.LittleEndian.AppendUint64([]byte{mark}, x.Seq)
	b = binary.LittleEndian.AppendUint16(b, uint16(x.Next+1))
	for _, e := range x.Slots {
		b = binary.LittleEndian.AppendUint32(append(b, byte(e.Kind)), uint32(e.Lba))
	}
	return seal(b)
}

// padded is bytes with zeros behind them, size bytes in all if there are not more.
func padded(b []byte, size int) []byte {
	return append(slices.Clone(b), make([]byte, max(len(b), size)-len(b))...)
}

// reseal puts the sum that fits a note of so many slots where it belongs.
func reseal(b []byte, slots int) {
	end := need(slots) - 4
	binary.LittleEndian.PutUint32(b[end:], crc32.ChecksumIEEE(b[:end]))
}

// same returns whether two notes are equal; no slots are so whether nil or empty (R4).
func same(x, y Note) bool {
	return x.Seq == y.Seq && x.Next == y.Next && slices.Equal(x.Slots, y.Slots)
}

// brief is the beginning of what is to be told, since a note may have very many slots.
func brief(x any) string {
	told := fmt.Sprintf("%+v", x)
	return told[:min(len(told), 500)]
}

// mustFail checks that bytes have an error, and beside it the zero value of a note (R3).
func mustFail(t *testing.T, what string, b []byte, slots int, want api.Errno) {
	t.Helper()
	if x, err := Decode(b, slots); err != want || !same(x, Note{}) {
		t.Errorf("%s: Decode of %d bytes, %d slots = %+v, %d, not %d", what, len(b), slots, x, err, want)
	}
}

// mustDecode checks that bytes have a note.
func mustDecode(t *testing.T, b []byte, want Note) {
	t.Helper()
	if x, err := Decode(b, len(want.Slots)); err != api.OK || !same(x, want) {
		t.Errorf("Decode of the bytes of %s = %s, %d", brief(want), brief(x), err)
	}
}

// mustEncode checks the bytes of a note in a block against the independent statement of them, and that they are read again.
func mustEncode(t *testing.T, x Note, block int) {
	t.Helper()
	b := Encode(x, block)
	if want := padded(sealed('N', x), block); !bytes.Equal(b, want) {
		t.Errorf("Encode(%s, %d) = %s, not %s", brief(x), block, brief(b), brief(want))
	}
	mustDecode(t, b, x)
}

// P9.1: the chapter's example: without slots, a note has 15 bytes; each slot has five more.
func TestExample(t *testing.T) {
	if b := Encode(Note{}, 0); len(b) != 15 {
		t.Errorf("a note without slots is %v", b)
	}
	for slots := range 300 {
		if b := Encode(many(slots), 0); len(b) != 15+5*slots {
			t.Errorf("a note of %d slots has %d bytes", slots, len(b))
		}
	}
}

// P9.1: notes written out byte for byte; each is read again.
func TestBytes(t *testing.T) {
	for _, c := range []struct {
		x    Note
		want []byte
	}{
		{
			Note{Seq: 0, Next: -1},
			[]byte{'N', 0, 0, 0, 0, 0, 0, 0, 0, 0, 0, 5, 0x83, 0xB9, 0xEF},
		},
		{
			Note{Seq: 1, Next: 0},
			[]byte{'N', 1, 0, 0, 0, 0, 0, 0, 0, 1, 0, 0x7A, 0xD9, 0x60, 0x19},
		},
		{
			Note{Seq: 258, Next: 3, Slots: []Entry{{nv.Move, 7}}},
			[]byte{'N', 2, 1, 0, 0, 0, 0, 0, 0, 4, 0, 3, 7, 0, 0, 0, 0x99, 0x7D, 0xF6, 0xF9},
		},
		{
			Note{Seq: 0x0102030405060708, Next: 0x0A0B, Slots: []Entry{{nv.None, 0}, {nv.Write, 0x11121314}, {nv.Trim, 0}, {nv.Move, math.MaxUint32}}},
			[]byte{'N', 8, 7, 6, 5, 4, 3, 2, 1, 0x0C, 0x0A, 0, 0, 0, 0, 0, 1, 0x14, 0x13, 0x12, 0x11, 2, 0, 0, 0, 0, 3, 0xFF, 0xFF, 0xFF, 0xFF, 0x5A, 0x32, 0x67, 0x53},
		},
		{
			Note{Seq: math.MaxUint64, Next: 65534, Slots: []Entry{{nv.Trim, 1}, {nv.None, 0}}},
			[]byte{'N', 0xFF, 0xFF, 0xFF, 0xFF, 0xFF, 0xFF, 0xFF, 0xFF, 0xFF, 0xFF, 2, 1, 0, 0, 0, 0, 0, 0, 0, 0, 0xA3, 0x72, 0xE8, 0xBA},
		},
	} {
		for _, block := range []int{0, len(c.want), 64} {
			want := padded(c.want, block)
			if got := Encode(c.x, block); !bytes.Equal(got, want) {
				t.Errorf("Encode(%+v, %d) = %v, not %v", c.x, block, got, want)
			}
			mustDecode(t, want, c.x)
		}
	}
}

// P9.1: a block that is negative, nought, or less than what is needed has just the bytes that are; a greater one has zeros behind them.
func TestBlocks(t *testing.T) {
	for _, x := range samples() {
		just := need(len(x.Slots))
		for _, block := range []int{math.MinInt, -1 << 32, -513, -1, 0, 1, 14, 15, 16, 32, 85, 512, just - 1, just, just + 1, just + 4, just + 5, 4096, 70000, 1 << 20} {
			mustEncode(t, x, block)
		}
		for block := range 200 {
			mustEncode(t, x, block)
		}
	}
}

// P9.1: no slots, one, many, and more than there are members' chunks for.
func TestNumbersOfSlots(t *testing.T) {
	for slots := range 120 {
		mustEncode(t, many(slots), 85)
		mustEncode(t, many(slots), 512)
	}
	mustEncode(t, many(50000), 512)
	// More bytes than Bytes of chapter 2 pads to: what is needed is there nevertheless.
	mustEncode(t, many(1<<18), 512)
}

// P9.1, R4: a note whose slots are nil and one whose slots are empty have the same bytes.
func TestNilSlots(t *testing.T) {
	one, two := Encode(Note{Seq: 5, Next: 6}, 32), Encode(Note{Seq: 5, Next: 6, Slots: []Entry{}}, 32)
	if !bytes.Equal(one, two) {
		t.Errorf("%v for nil, %v for empty slots", one, two)
	}
}

// P9.1: each number with the least and the greatest values that its bytes hold, each of its bits, and each value where there are few.
func TestEachNumber(t *testing.T) {
	for bit := range 64 {
		mustEncode(t, Note{Seq: 1 << bit}, 32)
		mustEncode(t, Note{Seq: math.MaxUint64 ^ 1<<bit}, 32)
	}
	mustEncode(t, Note{Seq: math.MaxUint64}, 32)
	for next := -1; next <= 65534; next++ {
		mustEncode(t, Note{Seq: 9, Next: next}, 16)
	}
	for kind := nv.Write; kind <= nv.Move; kind++ {
		lbas := []int{0, 1, 2, 255, 256, 65535, 65536, 12810, math.MaxInt32, 1 << 31, math.MaxUint32 - 1, math.MaxUint32}
		for bit := range 32 {
			lbas = append(lbas, 1<<bit)
		}
		for _, lba := range lbas {
			mustEncode(t, Note{Seq: 9, Slots: []Entry{{kind, lba}}}, 32)
			mustEncode(t, Note{Seq: 9, Slots: []Entry{{nv.None, 0}, {kind, lba}, {nv.Move, 77}}}, 32)
		}
	}
}

// P9.1: all kinds in all of three slots.
func TestKinds(t *testing.T) {
	lba := func(k nv.Kind, n int) int { return n * min(int(k), 1) }
	for a := nv.None; a <= nv.Move; a++ {
		for b := nv.None; b <= nv.Move; b++ {
			for c := nv.None; c <= nv.Move; c++ {
				mustEncode(t, Note{Seq: 77, Next: 5, Slots: []Entry{{a, lba(a, 1)}, {b, lba(b, 2)}, {c, lba(c, 3)}}}, 32)
			}
		}
	}
}

// P9.1: a negative number of slots is ErrSize, whatever the bytes are.
func TestNegativeSlots(t *testing.T) {
	for _, slots := range []int{-1, -2, -3, -4, -100, math.MinInt32, math.MinInt/5 - 1, math.MinInt / 5, math.MinInt + 15, math.MinInt + 1, math.MinInt} {
		mustFail(t, "nil", nil, slots, api.ErrSize)
		for _, x := range samples() {
			mustFail(t, "a note", Encode(x, 512), slots, api.ErrSize)
		}
		for size := range 40 {
			mustFail(t, "zeros", make([]byte, size), slots, api.ErrSize)
			if size >= 4 {
				mustFail(t, "sealed bytes", seal(make([]byte, size-4)), slots, api.ErrSize)
			}
		}
	}
}

// P9.1: fewer than 15 + 5*slots bytes, none and nil among them, are ErrSize, also where they are sealed, or neither sealed nor of the form.
func TestTooFew(t *testing.T) {
	for slots := range 20 {
		mustFail(t, "nil", nil, slots, api.ErrSize)
		mustFail(t, "none", []byte{}, slots, api.ErrSize)
		b := Encode(many(slots), 512)
		for size := range need(slots) {
			mustFail(t, "the beginning of a note", b[:size], slots, api.ErrSize)
			mustFail(t, "zeros", make([]byte, size), slots, api.ErrSize)
			mustFail(t, "ones", bytes.Repeat([]byte{0xFF}, size), slots, api.ErrSize)
			if size >= 4 {
				mustFail(t, "sealed bytes", seal(b[:size-4]), slots, api.ErrSize)
			}
		}
		mustDecode(t, b[:need(slots)], many(slots))
	}
}

// P9.1: so many slots that no slice has as many bytes are ErrSize, also where 15 + 5*slots wraps round to few.
func TestTooManySlots(t *testing.T) {
	list := []int{1 << 20, 1 << 32, 1 << 62, math.MaxInt, math.MaxInt - 1, math.MaxInt - 15, math.MaxInt / 5, (math.MaxInt - 15) / 5, (math.MaxInt-15)/5 + 1}
	// These wrap round to from 0 to 99 bytes of slots: about 2^64/5, 2*2^64/5.
	for _, around := range []uint64{math.MaxUint64/5 + 1, math.MaxUint64/5*2 + 1} {
		for k := range uint64(20) {
			list = append(list, int(around+k), int(around-k))
		}
	}
	for _, slots := range list {
		if slots < 0 {
			t.Fatalf("%d slots", slots)
		}
		mustFail(t, "nil", nil, slots, api.ErrSize)
		for _, x := range samples() {
			b := Encode(x, 512)
			mustFail(t, "a note", b, slots, api.ErrSize)
			mustFail(t, "a note without zeros behind it", b[:need(len(x.Slots))], slots, api.ErrSize)
		}
	}
}

// P9.1, R2: with any one bit of the first 15 + 5*slots bytes turned it is ErrSum, whatever that makes of the form, and whatever follows.
func TestTurnedBits(t *testing.T) {
	for _, x := range samples() {
		slots := len(x.Slots)
		for bit := range need(slots) * 8 {
			b := Encode(x, 100)
			b[bit/8] ^= 1 << (bit % 8)
			mustFail(t, "a turned bit", b, slots, api.ErrSum)
			mustFail(t, "a turned bit, and nothing behind", b[:need(slots)], slots, api.ErrSum)
			mustFail(t, "a turned bit, and a byte missing", b[:need(slots)-1], slots, api.ErrSize)
			b[len(b)-1] = 1
			mustFail(t, "a turned bit, and no zero at the end", b, slots, api.ErrSum)
		}
	}
}

// P9.1: no other sum does: of fewer or more bytes, highest byte first, not inverted, or one that is at the end of the block.
func TestOtherSums(t *testing.T) {
	for _, x := range samples() {
		slots := len(x.Slots)
		good, end := Encode(x, 100), need(slots)-4
		c := binary.LittleEndian.Uint32(good[end:])
		for what, other := range map[string]uint32{
			"none":           0,
			"all ones":       math.MaxUint32,
			"not inverted":   ^c,
			"one less":       c - 1,
			"one byte fewer": crc32.ChecksumIEEE(good[:end-1]),
			"but the first":  crc32.ChecksumIEEE(good[1:end]),
			"of four zeros":  crc32.ChecksumIEEE(padded(good[:end], end+4)),
			"of all":         crc32.ChecksumIEEE(padded(good[:end], len(good))),
			"of another CRC": crc32.Checksum(good[:end], crc32.MakeTable(crc32.Castagnoli)),
		} {
			b := slices.Clone(good)
			binary.LittleEndian.PutUint32(b[end:], other)
			mustFail(t, "sum "+what, b, slots, api.ErrSum)
		}
		b := slices.Clone(good)
		binary.BigEndian.PutUint32(b[end:], c)
		mustFail(t, "highest byte first", b, slots, api.ErrSum)
		mustFail(t, "sum at the end", seal(padded(good[:end], 96)), slots, api.ErrSum)
	}
	for slots := range 20 {
		mustFail(t, "zeros", make([]byte, 512), slots, api.ErrSum)
		mustFail(t, "ones", bytes.Repeat([]byte{0xFF}, 512), slots, api.ErrSum)
	}
}

// P9.1: another number of slots than the note has is ErrSum, as long as there are so many bytes, and ErrSize beyond.
func TestOtherNumbersOfSlots(t *testing.T) {
	for has := range 20 {
		x := many(has)
		b := Encode(x, 512)
		mustDecode(t, b, x)
		for asked := range 110 {
			if need(asked) > len(b) {
				mustFail(t, "too many slots", b, asked, api.ErrSize)
			} else if asked != has {
				mustFail(t, "another number of slots", b, asked, api.ErrSum)
			}
		}
	}
}

// trimSum returns a note without slots the first byte of whose sum is the kind Trim.
func trimSum(t *testing.T) []byte {
	for seq := range uint64(100000) {
		if b := sealed('N', Note{Seq: seq, Next: 1}); b[11] == byte(nv.Trim) {
			return b
		}
	}
	t.Fatal("no such note")
	return nil
}

// P9.1: a note without slots may be the beginning of a sealed note with one, whose slot is its sum and one more byte; asked for no slots, it is the form that is wrong, not the sum.
func TestSealedTwice(t *testing.T) {
	inner := trimSum(t)
	if x, err := Decode(inner, 0); err != api.OK || x.Next != 1 || len(x.Slots) != 0 {
		t.Errorf("the inner note is %+v, %d", x, err)
	}
	outer := seal(append(slices.Clone(inner), 9))
	if x, err := Decode(outer, 1); err != api.OK || x.Next != 1 || len(x.Slots) != 1 || x.Slots[0].Kind != nv.Trim || x.Slots[0].Lba>>24 != 9 {
		t.Errorf("the outer note is %+v, %d", x, err)
	}
	mustFail(t, "the inner note, with no zeros behind it", outer, 0, api.ErrForm)
}

// P9.1: any other first byte is ErrForm, sealed as it may be.
func TestOtherMarks(t *testing.T) {
	for _, x := range samples() {
		for mark := range 256 {
			b := padded(sealed(byte(mark), x), 100)
			if mark == 'N' {
				mustDecode(t, b, x)
			} else {
				mustFail(t, "another mark", b, len(x.Slots), api.ErrForm)
			}
		}
	}
}

// P9.1: a kind greater than Move is ErrForm in any slot, whatever its block is.
func TestOtherKinds(t *testing.T) {
	for _, x := range []Note{many(1), many(2), many(5), many(14)} {
		for i := range x.Slots {
			for kind := range 256 {
				for _, lba := range []int{0, 1, math.MaxUint32} {
					y := Note{Seq: x.Seq, Next: x.Next, Slots: slices.Clone(x.Slots)}
					y.Slots[i] = Entry{nv.Kind(kind), lba}
					b := padded(sealed('N', y), 100)
					if kind > 3 || kind == 0 && lba != 0 {
						mustFail(t, "another kind", b, len(x.Slots), api.ErrForm)
					} else {
						mustDecode(t, b, y)
					}
				}
			}
		}
	}
}

// P9.1: a slot of kind None whose Lba is not 0 is ErrForm, whichever slot it is and whichever byte of the Lba is not zero.
func TestNoneOfABlock(t *testing.T) {
	for _, slots := range []int{1, 2, 5, 14} {
		for i := range slots {
			x := many(slots)
			x.Slots[i] = Entry{}
			b := Encode(x, 100)
			mustDecode(t, b, x)
			for bit := range 32 {
				turned := slices.Clone(b)
				turned[11+5*i+1+bit/8] ^= 1 << (bit % 8)
				reseal(turned, slots)
				mustFail(t, "None, of a block", turned, slots, api.ErrForm)
			}
		}
	}
}

// P9.1: any one byte after the first 15 + 5*slots that is not zero is ErrForm.
func TestNoZeros(t *testing.T) {
	for _, x := range samples() {
		slots := len(x.Slots)
		for _, block := range []int{need(slots) + 1, need(slots) + 5, 512} {
			for i := need(slots); i < block; i++ {
				for _, c := range []byte{1, 2, 'N', 0x7F, 0x80, 0xFF} {
					b := Encode(x, block)
					b[i] = c
					mustFail(t, "a byte that is not zero", b, slots, api.ErrForm)
				}
			}
		}
	}
}

// R2: the size comes ahead of the sum, and the sum ahead of the form.
func TestOrderOfErrors(t *testing.T) {
	for _, x := range samples() {
		slots := len(x.Slots)
		b := padded(sealed('M', x), 100)
		b[99] = 1
		mustFail(t, "only the form", b, slots, api.ErrForm)
		mustFail(t, "the form and the size", b, -1, api.ErrSize)
		mustFail(t, "the form and the size", b, 18, api.ErrSize)
		b[need(slots)-1] ^= 1
		mustFail(t, "the form and the sum", b, slots, api.ErrSum)
		mustFail(t, "all", b, -1, api.ErrSize)
		mustFail(t, "all", b, 18, api.ErrSize)
		mustFail(t, "all", b[:need(slots)-1], slots, api.ErrSize)
	}
}

// R5: bytes that are decoded stay as they are, and so do those behind them, which do not count; a note that was returned stays when they change.
func TestDecodeLeavesItsArgument(t *testing.T) {
	for _, x := range samples() {
		slots := len(x.Slots)
		for _, turned := range []int{-1, 0, 12, need(slots) - 1, need(slots)} {
			whole := append(Encode(x, 100), bytes.Repeat([]byte{0xAA}, 40)...)
			if turned >= 0 {
				whole[turned] ^= 1
			}
			was := slices.Clone(whole)
			for _, size := range []int{100, 0, 14, 15, need(slots) - 1, need(slots), need(slots) + 1} {
				for _, asked := range []int{slots, 0, 1, -1} {
					Decode(whole[:size], asked)
					if !bytes.Equal(whole, was) {
						t.Fatalf("Decode of %d bytes, %d slots changed what it was given", size, asked)
					}
				}
			}
			if turned < 0 {
				y, _ := Decode(whole[:100], slots)
				clear(whole)
				if !same(y, x) {
					t.Errorf("%+v became %+v with the bytes", x, y)
				}
			}
		}
	}
}

// R5, R6: a decoded note's slots are new each time: changing those of one, or their spare capacity, changes neither the bytes nor another note.
func TestDecodeIsNew(t *testing.T) {
	for _, x := range samples() {
		b := Encode(x, 100)
		one, _ := Decode(b, len(x.Slots))
		two, _ := Decode(b, len(x.Slots))
		all := one.Slots[:cap(one.Slots)]
		for i := range all {
			all[i] = Entry{nv.Move, 0xEEEE}
		}
		if !same(two, x) {
			t.Errorf("%+v became %+v with another one", x, two)
		}
		mustDecode(t, b, x)
	}
}

// R5: a note that is encoded stays as it is, with the spare capacity of its slots, which does not count; the bytes stay when the note changes.
func TestEncodeLeavesItsArgument(t *testing.T) {
	for _, x := range samples() {
		whole := append(slices.Clone(x.Slots), Entry{nv.Move, 1}, Entry{nv.Trim, 2}, Entry{nv.Write, 3})
		was := slices.Clone(whole)
		for _, block := range []int{-1, 0, 32, 512} {
			y := Note{Seq: x.Seq, Next: x.Next, Slots: whole[:len(x.Slots)]}
			b := Encode(y, block)
			if !slices.Equal(whole, was) || !same(y, x) {
				t.Fatalf("Encode changed %+v to %+v", was, whole)
			}
			clear(whole)
			if !bytes.Equal(b, padded(sealed('N', x), block)) {
				t.Errorf("the bytes of %+v changed with it", x)
			}
			copy(whole, was)
		}
	}
}

// R5, R6: the bytes are new each time: changing them, or their spare capacity, changes neither earlier nor later ones.
func TestEncodeIsNew(t *testing.T) {
	for _, x := range samples() {
		for _, block := range []int{0, 100} {
			one, two := Encode(x, block), Encode(x, block)
			all := one[:cap(one)]
			for i := range all {
				all[i] = 0xEE
			}
			if !bytes.Equal(two, padded(sealed('N', x), block)) {
				t.Errorf("bytes of %+v changed with others", x)
			}
			mustEncode(t, x, block)
		}
	}
}

// P1: Encode panics for no note and no block, though nothing can be read again of numbers that their bytes do not hold; and Decode panics for none of these results.
func TestEncodeOfAnything(t *testing.T) {
	numbers := []int{0, 1, -1, -2, 3, 4, 255, 256, 65534, 65535, 65536, 1 << 32, 1 << 62, math.MinInt, math.MinInt + 1, math.MaxInt - 1, math.MaxInt}
	blocks := []int{math.MinInt, -1, 0, 20, 32, 1<<20 + 1, 1 << 32, 1 << 62, math.MaxInt}
	for _, n := range numbers {
		for _, m := range numbers {
			x := Note{Seq: uint64(m), Next: n, Slots: []Entry{{nv.Kind(n), m}, {nv.Kind(m), n}}}
			b := Encode(x, 0)
			if !bytes.Equal(b, sealed('N', x)) {
				t.Errorf("Encode(%+v, 0) = %v: not the lowest bytes of its numbers", x, b)
			}
			for slots := -1; slots <= 3; slots++ {
				mustAgree(t, b, slots)
			}
		}
		for _, block := range blocks {
			x := Note{Next: n}
			b := Encode(x, block)
			want := sealed('N', x)
			if !bytes.Equal(b[:len(want)], want) || !bytes.Equal(b[len(want):], make([]byte, len(b)-len(want))) {
				t.Errorf("Encode(%+v, %d) begins with %v", x, block, b[:len(want)])
			}
			Decode(b, n)
		}
	}
}

// expected is an independent statement of what Decode returns: bytes have a note if they are those of a valid one.
func expected(b []byte, slots int) (Note, api.Errno) {
	if slots < 0 || slots > len(b) || len(b) < need(slots) {
		return Note{}, api.ErrSize
	}
	end := need(slots) - 4
	if !bytes.Equal(seal(b[:end]), b[:end+4]) {
		return Note{}, api.ErrSum
	}
	x := Note{Seq: binary.LittleEndian.Uint64(b[1:]), Next: int(binary.LittleEndian.Uint16(b[9:])) - 1}
	for i := 11; i < end; i += 5 {
		e := Entry{nv.Kind(b[i]), int(binary.LittleEndian.Uint32(b[i+1:]))}
		if e.Kind >= 4 || e.Kind == 0 && e.Lba > 0 {
			return Note{}, api.ErrForm
		}
		x.Slots = append(x.Slots, e)
	}
	if !bytes.Equal(b, padded(sealed('N', x), len(b))) {
		return Note{}, api.ErrForm
	}
	return x, api.OK
}

// mustAgree checks Decode against the independent statement of it.
func mustAgree(t *testing.T, b []byte, slots int) api.Errno {
	t.Helper()
	want, wantErr := expected(b, slots)
	got, err := Decode(b, slots)
	if !same(got, want) || err != wantErr {
		t.Fatalf("Decode(%v, %d) = %+v, %d, not %+v, %d", b, slots, got, err, want, wantErr)
	}
	return err
}

// anyNote makes a valid note of so many slots.
func anyNote(r *rand.Rand, slots int) Note {
	x := Note{Seq: r.Uint64() >> r.Intn(64), Next: r.Intn(65536) - 1}
	for range slots {
		e := Entry{nv.Kind(r.Intn(4)), int(r.Uint32() >> r.Intn(32))}
		if e.Kind == nv.None {
			e.Lba = 0
		}
		x.Slots = append(x.Slots, e)
	}
	return x
}

// P9.1, P1: bytes of any kind and any length with any number of slots, sealed or not, and notes with some bytes changed, are read as stated.
func TestRandom(t *testing.T) {
	r := rand.New(rand.NewSource(9))
	seen := map[api.Errno]int{}
	for range 30000 {
		b := make([]byte, r.Intn(100))
		r.Read(b)
		slots := r.Intn(18) - 1
		seen[mustAgree(t, b, slots)]++
		if slots >= 0 && len(b) >= need(slots) {
			reseal(b, slots)
			seen[mustAgree(t, b, slots)]++
		}
		mustAgree(t, b, int(r.Uint64()>>r.Intn(64)))

		slots = r.Intn(15)
		x := anyNote(r, slots)
		b = Encode(x, r.Intn(120))
		mustDecode(t, b, x)
		seen[mustAgree(t, b, slots)]++
		seen[mustAgree(t, b, slots+r.Intn(3)-1)]++
		for range r.Intn(3) {
			b[r.Intn(len(b))] = byte(r.Intn(6))
		}
		for range r.Intn(2) {
			b[r.Intn(need(slots)-4)] ^= 1 << r.Intn(8)
		}
		seen[mustAgree(t, b, slots)]++
		reseal(b, slots)
		seen[mustAgree(t, b, slots)]++
		seen[mustAgree(t, b[:r.Intn(len(b))], slots)]++
	}
	for _, err := range []api.Errno{api.OK, api.ErrSize, api.ErrSum, api.ErrForm} {
		if seen[err] < 1000 {
			t.Errorf("error %d was seen only %d times", err, seen[err])
		}
	}
}
