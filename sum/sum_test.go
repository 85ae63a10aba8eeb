package sum

import (
	"bytes"
	"hash/crc32"
	"slices"
	"testing"

	"drystone/api"
)

// pattern makes n bytes that take all values and do not repeat with a short period.
func pattern(n int) []byte {
	b := make([]byte, n)
	x := uint32(1)
	for i := range b {
		x = x*1664525 + 1013904223
		b[i] = byte(x >> 24)
	}
	return b
}

// roomy makes a copy of b with spare capacity behind it, which holds the byte 0xAA; all of that is returned, too.
func roomy(b []byte) (arg, whole []byte) {
	whole = append(slices.Clone(b), bytes.Repeat([]byte{0xAA}, 16)...)
	return whole[:len(b)], whole
}

// P1.1: known sums, the document's example and the sum of no bytes among them.
func TestOfKnown(t *testing.T) {
	for _, c := range []struct {
		in   string
		want uint32
	}{
		{"", 0},
		{"123456789", 0xCBF43926},
		{"a", 0xE8B7BE43},
		{"abc", 0x352441C2},
		{"\x00", 0xD202EF8D},
		{"\x00\x00\x00\x00", 0x2144DF1C},
		{"\xff", 0xFF000000},
		{"\xff\xff\xff\xff", 0xFFFFFFFF},
		{"The quick brown fox jumps over the lazy dog", 0x414FA339},
	} {
		if got := Of([]byte(c.in)); got != c.want {
			t.Errorf("Of(%q) = %08X, not %08X", c.in, got, c.want)
		}
	}
	if got := Of(nil); got != 0 {
		t.Errorf("Of(nil) = %08X, not 0", got)
	}
}

// P1.1: the library's CRC-32 is an independent statement of the same sum.
func TestOfIsUsualCRC(t *testing.T) {
	for x := range 256 * 256 {
		b := []byte{byte(x), byte(x >> 8)}
		if got, want := Of(b[:1]), crc32.ChecksumIEEE(b[:1]); got != want {
			t.Fatalf("Of(%v) = %08X, not %08X", b[:1], got, want)
		}
		if got, want := Of(b), crc32.ChecksumIEEE(b); got != want {
			t.Fatalf("Of(%v) = %08X, not %08X", b, got, want)
		}
	}
	for n := range 600 {
		b := pattern(n)
		if got, want := Of(b), crc32.ChecksumIEEE(b); got != want {
			t.Fatalf("Of of %d bytes = %08X, not %08X", n, got, want)
		}
	}
}

// P1.1: a sum follows the bytes, its lowest byte first.
func TestSeal(t *testing.T) {
	for _, c := range []struct {
		in, want string
	}{
		{"", "\x00\x00\x00\x00"},
		{"123456789", "123456789\x26\x39\xF4\xCB"},
		{"a", "a\x43\xBE\xB7\xE8"},
		{"\x00", "\x00\x8D\xEF\x02\xD2"},
	} {
		if got := Seal([]byte(c.in)); string(got) != c.want {
			t.Errorf("Seal(%q) = %q, not %q", c.in, got, c.want)
		}
	}
	if got := Seal(nil); string(got) != "\x00\x00\x00\x00" {
		t.Errorf("Seal(nil) = %q", got)
	}
}

// P1.1: Open returns what was sealed, whatever its length.
func TestOpenSealed(t *testing.T) {
	for n := range 600 {
		b := pattern(n)
		got, err := Open(Seal(b))
		if err != api.OK || !bytes.Equal(got, b) {
			t.Fatalf("Open(Seal) of %d bytes = %d bytes, error %d", n, len(got), err)
		}
	}
	if got, err := Open(Seal(Seal([]byte("ab")))); err != api.OK || !bytes.Equal(got, Seal([]byte("ab"))) {
		t.Errorf("Open of bytes that were sealed twice = %v, error %d", got, err)
	}
}

// P1.1, R3: fewer than four bytes are ErrSize, and nothing is returned beside it.
func TestOpenTooShort(t *testing.T) {
	for _, b := range [][]byte{nil, {}, {0}, {0, 0}, {0, 0, 0}, {1, 2, 3}} {
		if got, err := Open(b); err != api.ErrSize || len(got) != 0 {
			t.Errorf("Open(%v) = %v, error %d, not ErrSize", b, got, err)
		}
	}
}

// P1.1: exactly four bytes are a sum alone: that of no bytes, or a wrong one.
func TestOpenFourBytes(t *testing.T) {
	if got, err := Open([]byte{0, 0, 0, 0}); err != api.OK || len(got) != 0 {
		t.Errorf("Open of four zeros = %v, error %d", got, err)
	}
	for i := range 32 {
		b := make([]byte, 4)
		b[i/8] = 1 << (i % 8)
		if got, err := Open(b); err != api.ErrSum || len(got) != 0 {
			t.Errorf("Open(%v) = %v, error %d, not ErrSum", b, got, err)
		}
	}
}

// P1.1, R3: any bit that is changed, of the bytes or of the sum, is ErrSum, and nothing is returned beside it.
func TestOpenChangedBit(t *testing.T) {
	for _, n := range []int{1, 2, 3, 4, 5, 9, 32} {
		whole := Seal(pattern(n))
		for i := range 8 * len(whole) {
			b := slices.Clone(whole)
			b[i/8] ^= 1 << (i % 8)
			if got, err := Open(b); err != api.ErrSum || len(got) != 0 {
				t.Fatalf("%d bytes, bit %d changed: %v, error %d, not ErrSum", n, i, got, err)
			}
		}
	}
}

// P1.1: a sum elsewhere than in the last four bytes, or with its highest byte first, is ErrSum.
func TestOpenMisplacedSum(t *testing.T) {
	whole := Seal([]byte("123456789"))
	swapped := slices.Clone(whole)
	slices.Reverse(swapped[9:])
	for _, b := range [][]byte{
		swapped,
		whole[:len(whole)-1],
		whole[1:],
		append(slices.Clone(whole), 0),
		append([]byte{0}, whole...),
		append(slices.Clone(whole[9:]), whole[:9]...),
	} {
		if got, err := Open(b); err != api.ErrSum || len(got) != 0 {
			t.Errorf("Open(%v) = %v, error %d, not ErrSum", b, got, err)
		}
	}
}

// R5: no function modifies its argument or the spare capacity behind it.
func TestArgumentsUnmodified(t *testing.T) {
	for _, in := range [][]byte{{}, []byte("ab"), []byte("123456789"), Seal(nil), Seal([]byte("ab")), pattern(64)} {
		arg, whole := roomy(in)
		before := slices.Clone(whole)
		Of(arg)
		Seal(arg)
		Open(arg)
		if !bytes.Equal(whole, before) {
			t.Errorf("%v became %v", before, whole)
		}
	}
}

// R5: a result of Seal shares no memory with the argument, in neither direction.
func TestSealIsNew(t *testing.T) {
	arg, whole := roomy([]byte("123456789"))
	before := slices.Clone(whole)
	got := Seal(arg)
	clear(got[:cap(got)])
	if !bytes.Equal(whole, before) {
		t.Errorf("the argument changed with the result: %v", whole)
	}
	got = Seal(arg)
	clear(whole)
	if string(got) != "123456789\x26\x39\xF4\xCB" {
		t.Errorf("the result changed with the argument: %v", got)
	}
}

// R5: nor does a result of Open.
func TestOpenIsNew(t *testing.T) {
	arg, whole := roomy(Seal([]byte("123456789")))
	before := slices.Clone(whole)
	got, _ := Open(arg)
	clear(got[:cap(got)])
	if !bytes.Equal(whole, before) {
		t.Errorf("the argument changed with the result: %v", whole)
	}
	got, _ = Open(arg)
	clear(whole)
	if string(got) != "123456789" {
		t.Errorf("the result changed with the argument: %v", got)
	}
}

// R5: results of two calls share no memory, so nothing is kept between calls.
func TestResultsApart(t *testing.T) {
	b := []byte("123456789")
	first, second := Seal(b), Seal(b)
	clear(first[:cap(first)])
	if !bytes.Equal(second, Seal(b)) {
		t.Errorf("two results of Seal share memory: %v", second)
	}
	first, _ = Open(second)
	third, _ := Open(second)
	clear(first[:cap(first)])
	if !bytes.Equal(third, b) {
		t.Errorf("two results of Open share memory: %v", third)
	}
}

// R6: results depend on the length of an argument, not on its capacity or on earlier calls.
func TestResultsRepeat(t *testing.T) {
	for _, n := range []int{0, 1, 9, 100} {
		b := pattern(n)
		arg, _ := roomy(b)
		if Of(arg) != Of(b) || Of(b) != Of(b) {
			t.Errorf("Of of %d bytes differs between calls", n)
		}
		if !bytes.Equal(Seal(arg), Seal(b)) {
			t.Errorf("Seal of %d bytes differs between calls", n)
		}
		sealed, _ := roomy(Seal(b))
		for range 2 {
			if got, err := Open(sealed); err != api.OK || !bytes.Equal(got, b) {
				t.Errorf("Open of %d sealed bytes = %v, error %d", n, got, err)
			}
		}
	}
}
