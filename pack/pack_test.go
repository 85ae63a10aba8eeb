package pack

import (
	"bytes"
	"encoding/binary"
	"math"
	"slices"
	"testing"
)

// counted makes n bytes, of which those that are near each other differ and none is zero.
func counted(n int) []byte {
	b := make([]byte, n)
	for i := range b {
		b[i] = byte(i%251 + 1)
	}
	return b
}

// roomy makes a copy of b with spare capacity behind it, which holds the byte 0xAA; all of that is returned, too.
func roomy(b []byte) (arg, whole []byte) {
	whole = append(slices.Clone(b), bytes.Repeat([]byte{0xAA}, 16)...)
	return whole[:len(b)], whole
}

// numbers are of all widths, with bytes that differ, with single bits and with none.
func numbers() []uint64 {
	ns := []uint64{0, 1, 255, 256, 258, 0x0807060504030201, 0xF1E2D3C4B5A69788, math.MaxUint64}
	for i := range 64 {
		ns = append(ns, 1<<i)
	}
	return ns
}

// mustBeSpent checks that a reader is as it must be after a reading that could not be done, whatever is asked of it.
func mustBeSpent(t *testing.T, r *Reader) {
	t.Helper()
	for _, size := range []int{0, 1, 2, 0, 8, 9, -1, math.MinInt, math.MaxInt, 0, 1} {
		if n := r.Take(size); n != 0 {
			t.Errorf("Take(%d) of a spent reader = %d", size, n)
		}
		if b := r.Raw(size); len(b) != 0 {
			t.Errorf("Raw(%d) of a spent reader = %v", size, b)
		}
		if r.Good() {
			t.Errorf("a spent reader is good after size %d", size)
		}
		if b := r.Rest(); len(b) != 0 {
			t.Errorf("Rest of a spent reader = %v after size %d", b, size)
		}
	}
}

// P2.1: the document's example.
func TestPutExample(t *testing.T) {
	var w Writer
	if got := w.Put(2, 258).Bytes(0); !bytes.Equal(got, []byte{2, 1}) {
		t.Errorf("Put(2, 258) appends %v", got)
	}
}

// P2.1: the lowest bytes of a number, the lowest first; the higher ones do not count.
func TestPutLowestBytes(t *testing.T) {
	for _, n := range numbers() {
		all := binary.LittleEndian.AppendUint64(nil, n)
		for size := 1; size <= 8; size++ {
			var w Writer
			if got := w.Put(size, n).Bytes(0); !bytes.Equal(got, all[:size]) {
				t.Errorf("Put(%d, %x) appends %v, not %v", size, n, got, all[:size])
			}
		}
	}
}

// P2.1: nothing is appended if size is not from 1 to 8, and the writer goes on.
func TestPutOtherSizes(t *testing.T) {
	for _, size := range []int{0, 9, 10, 16, 64, 256, 257, 1 << 20, 1 << 32, 1<<32 + 1, math.MaxInt, -1, -8, math.MinInt, math.MinInt + 1} {
		var w Writer
		if got := w.Put(size, math.MaxUint64).Bytes(0); len(got) != 0 {
			t.Errorf("Put(%d) to an empty writer appends %v", size, got)
		}
		w.Put(1, 7).Put(size, math.MaxUint64).Put(2, 258)
		if got := w.Bytes(0); !bytes.Equal(got, []byte{7, 2, 1}) {
			t.Errorf("with Put(%d) between them: %v", size, got)
		}
	}
}

// P2.1: the zero value is empty, and bytes are appended as they are, in the order of the calls.
func TestWriterAppends(t *testing.T) {
	var w Writer
	if got := w.Bytes(0); len(got) != 0 {
		t.Errorf("the zero value has %v", got)
	}
	var want []byte
	for i := range 300 {
		raw := counted(i % 7)
		w.Put(3, uint64(i)<<4).Raw(raw)
		want = append(want, byte(i<<4), byte(i>>4), byte(i>>12))
		want = append(want, raw...)
		if got := w.Bytes(0); !bytes.Equal(got, want) {
			t.Fatalf("after %d calls: %v, not %v", i+1, got, want)
		}
	}
}

// P2.1, R4: Raw appends none of no bytes, nil or empty, and zeros as they are.
func TestWriterRaw(t *testing.T) {
	var w Writer
	if got := w.Raw(nil).Raw([]byte{}).Bytes(0); len(got) != 0 {
		t.Errorf("no bytes append %v", got)
	}
	if got := w.Raw([]byte{0, 0}).Raw(nil).Raw([]byte{255}).Bytes(0); !bytes.Equal(got, []byte{0, 0, 255}) {
		t.Errorf("Raw appends %v", got)
	}
}

// P2.1: Put and Raw return the writer itself, also if they append nothing.
func TestWriterItself(t *testing.T) {
	var w, other Writer
	for _, size := range []int{-1, 0, 1, 8, 9} {
		if w.Put(size, 1) != &w {
			t.Errorf("Put(%d) returns another writer", size)
		}
	}
	if w.Raw(nil) != &w || w.Raw([]byte{1}) != &w {
		t.Error("Raw returns another writer")
	}
	if got := other.Bytes(0); len(got) != 0 {
		t.Errorf("another writer has %v", got)
	}
}

// P2.1: zeros follow up to least bytes; least at or below what was appended, or below nought, adds and takes away nothing.
func TestBytesLeast(t *testing.T) {
	for _, n := range []int{0, 1, 3, 8, 33} {
		data := counted(n)
		var w Writer
		w.Raw(data)
		for _, least := range []int{math.MinInt, -1 << 32, -1 << 20, -5, -1, 0, 1, 2, 3, 4, 8, 9, 32, 33, 34, 100, 4096} {
			want := slices.Clone(data)
			for len(want) < least {
				want = append(want, 0)
			}
			if got := w.Bytes(least); !bytes.Equal(got, want) {
				t.Errorf("%d bytes, Bytes(%d) = %v", n, least, got)
			}
		}
	}
}

// P2.1: padding ends at 2^20 bytes, however many are asked for.
func TestBytesMostPadded(t *testing.T) {
	const most = 1 << 20
	var w Writer
	w.Put(2, 258)
	for _, c := range []struct{ least, want int }{
		{most - 1, most - 1}, {most, most}, {most + 1, most}, {2 * most, most}, {1 << 32, most}, {1<<32 + 5, most}, {math.MaxInt, most},
	} {
		got := w.Bytes(c.least)
		if len(got) != c.want || got[0] != 2 || got[1] != 1 || slices.Max(got[2:]) != 0 {
			t.Errorf("Bytes(%d) has %d bytes, not %d, or they are wrong", c.least, len(got), c.want)
		}
	}
	var empty Writer
	if got := empty.Bytes(math.MaxInt); len(got) != most || slices.Max(got) != 0 {
		t.Errorf("an empty writer is padded to %d bytes", len(got))
	}
}

// P2.1: the bound is one of padding alone: everything that was appended is returned, also beyond it.
func TestBytesBeyondMostPadded(t *testing.T) {
	for _, n := range []int{1<<20 - 1, 1 << 20, 1<<20 + 1, 1<<20 + 300} {
		data := counted(n)
		var w Writer
		w.Raw(data)
		for _, least := range []int{-1, 0, 5, n, math.MaxInt} {
			want := data
			if n < 1<<20 && least > n {
				want = append(slices.Clone(data), 0)
			}
			if got := w.Bytes(least); !bytes.Equal(got, want) {
				t.Errorf("%d bytes, Bytes(%d) has %d bytes, or they are wrong", n, least, len(got))
			}
		}
	}
}

// P2.1, R6: Bytes only tells; what was padded is not appended.
func TestBytesKeepsWriter(t *testing.T) {
	var w Writer
	w.Put(1, 5)
	w.Bytes(4)
	if got := w.Put(1, 6).Bytes(0); !bytes.Equal(got, []byte{5, 6}) {
		t.Errorf("padding stayed: %v", got)
	}
	for range 2 {
		if got := w.Bytes(3); !bytes.Equal(got, []byte{5, 6, 0}) {
			t.Errorf("Bytes(3) = %v", got)
		}
	}
}

// P2.2: numbers of all sizes are taken one behind the other, the lowest byte first.
func TestTake(t *testing.T) {
	if got := Read([]byte{2, 1}).Take(2); got != 258 {
		t.Errorf("Take(2) = %d", got)
	}
	for _, n := range numbers() {
		for size := 1; size <= 8; size++ {
			all := binary.LittleEndian.AppendUint64(nil, n)
			r := Read(append(slices.Clone(all[:size]), 77))
			want := n
			if size < 8 {
				want = n & (1<<(8*size) - 1)
			}
			if got := r.Take(size); got != want {
				t.Errorf("Take(%d) = %x, not %x", size, got, want)
			}
			if got := r.Take(1); got != 77 || !r.Good() || len(r.Rest()) != 0 {
				t.Errorf("after Take(%d): %d, good %t, rest %v", size, got, r.Good(), r.Rest())
			}
		}
	}
}

// P2.2: of more than 8 bytes the first 8 count, but all of them are read.
func TestTakeMoreThanEight(t *testing.T) {
	for _, size := range []int{9, 10, 15, 16, 17, 64, 300} {
		r := Read(append(counted(size), 77, 78))
		if got := r.Take(size); got != 0x0807060504030201 {
			t.Errorf("Take(%d) = %x", size, got)
		}
		if got := r.Rest(); !r.Good() || !bytes.Equal(got, []byte{77, 78}) {
			t.Errorf("after Take(%d): good %t, rest %v", size, r.Good(), got)
		}
	}
	r := Read(counted(9))
	if r.Take(10) != 0 {
		t.Error("10 of 9 bytes were taken")
	}
	mustBeSpent(t, r)
}

// P2.2: bytes are read one behind the other, up to the last.
func TestReaderRaw(t *testing.T) {
	data := counted(300)
	r := Read(data)
	at := 0
	for size := 0; at+size <= len(data); size++ {
		if got := r.Raw(size); !bytes.Equal(got, data[at:at+size]) {
			t.Fatalf("Raw(%d) at %d = %v", size, at, got)
		}
		at += size
		if got := r.Rest(); !r.Good() || !bytes.Equal(got, data[at:]) {
			t.Fatalf("at %d: good %t, rest %v", at, r.Good(), got)
		}
	}
	if got := r.Raw(len(data) - at); !bytes.Equal(got, data[at:]) || !r.Good() || len(r.Rest()) != 0 {
		t.Errorf("the last bytes: %v, good %t, rest %v", got, r.Good(), r.Rest())
	}
}

// P2.2: a size of nought can always be read while the reader is good: it is nothing, also at the end.
func TestReadNothing(t *testing.T) {
	for _, data := range [][]byte{nil, {}, {9}, counted(20)} {
		r := Read(data)
		for range 3 {
			if n, b := r.Take(0), r.Raw(0); n != 0 || len(b) != 0 {
				t.Errorf("nothing of %v: %d, %v", data, n, b)
			}
			if got := r.Rest(); !r.Good() || !bytes.Equal(got, data) {
				t.Errorf("after nothing of %v: good %t, rest %v", data, r.Good(), got)
			}
		}
		r.Raw(len(data))
		if r.Take(0) != 0 || len(r.Raw(0)) != 0 || !r.Good() || len(r.Rest()) != 0 {
			t.Errorf("nothing at the end of %v: good %t, rest %v", data, r.Good(), r.Rest())
		}
	}
}

// P2.2: Take, with more bytes than there are or a size below nought, returns 0, and nothing can be read any more.
func TestTakeFails(t *testing.T) {
	for _, n := range []int{0, 1, 2, 7, 8, 12} {
		for _, size := range []int{n + 1, n + 2, n + 9, 1 << 20, 1 << 32, 1<<32 + 1, math.MaxInt, -1, -2, -8, math.MinInt, math.MinInt + 1} {
			r := Read(counted(n))
			if got := r.Take(size); got != 0 {
				t.Errorf("Take(%d) of %d bytes = %x", size, n, got)
			}
			mustBeSpent(t, r)
		}
	}
}

// P2.2: so does Raw, which returns none, also of what there would have been.
func TestReaderRawFails(t *testing.T) {
	for _, n := range []int{0, 1, 2, 7, 8, 12} {
		for _, size := range []int{n + 1, n + 2, n + 9, 1 << 20, 1 << 32, 1<<32 + 1, math.MaxInt, -1, -2, -8, math.MinInt, math.MinInt + 1} {
			r := Read(counted(n))
			if got := r.Raw(size); len(got) != 0 {
				t.Errorf("Raw(%d) of %d bytes = %v", size, n, got)
			}
			mustBeSpent(t, r)
		}
	}
}

// P2.2: a reading that cannot be done counts what is left, not what there was at first, and ends the reader at any point.
func TestFailsLater(t *testing.T) {
	for at := range 9 {
		for _, size := range []int{9 - at, -1, math.MaxInt} {
			taken, raw := Read(counted(8)), Read(counted(8))
			taken.Raw(at)
			raw.Raw(at)
			if got := taken.Take(size); got != 0 {
				t.Errorf("Take(%d) at %d = %x", size, at, got)
			}
			if got := raw.Raw(size); len(got) != 0 {
				t.Errorf("Raw(%d) at %d = %v", size, at, got)
			}
			mustBeSpent(t, taken)
			mustBeSpent(t, raw)
		}
	}
}

// P2.2, R4: a reader of no bytes is good until something is requested.
func TestReadNoBytes(t *testing.T) {
	for _, data := range [][]byte{nil, {}} {
		r := Read(data)
		if !r.Good() || len(r.Rest()) != 0 {
			t.Errorf("of no bytes: good %t, rest %v", r.Good(), r.Rest())
		}
		if r.Take(1) != 0 {
			t.Error("a byte of none was taken")
		}
		mustBeSpent(t, r)
	}
}

// P2.2, R6: Rest and Good only tell: nothing is read by them.
func TestRestReadsNothing(t *testing.T) {
	r := Read([]byte{1, 2, 3})
	for range 3 {
		if got := r.Rest(); !bytes.Equal(got, []byte{1, 2, 3}) || !r.Good() {
			t.Errorf("Rest = %v, good %t", got, r.Good())
		}
	}
	if got := r.Take(3); got != 0x030201 || !r.Good() {
		t.Errorf("after Rest: %x, good %t", got, r.Good())
	}
}

// P2.1, P2.2: what was put is taken again.
func TestPutAndTake(t *testing.T) {
	var w Writer
	for _, n := range numbers() {
		for size := 1; size <= 8; size++ {
			w.Put(size, n).Raw(counted(size))
		}
	}
	r := Read(w.Bytes(0))
	for _, n := range numbers() {
		for size := 1; size <= 8; size++ {
			if got := r.Take(size); got != n<<(64-8*size)>>(64-8*size) {
				t.Fatalf("%x in %d bytes became %x", n, size, got)
			}
			if got := r.Raw(size); !bytes.Equal(got, counted(size)) {
				t.Fatalf("%d bytes became %v", size, got)
			}
		}
	}
	if !r.Good() || len(r.Rest()) != 0 {
		t.Errorf("at the end: good %t, rest %v", r.Good(), r.Rest())
	}
}

// R5: no function modifies its argument or the spare capacity behind it.
func TestArgumentsUnmodified(t *testing.T) {
	arg, whole := roomy(counted(5))
	before := slices.Clone(whole)
	var w Writer
	w.Raw(arg).Put(8, math.MaxUint64).Raw(arg).Put(1, 1)
	clear(w.Bytes(40))
	r := Read(arg)
	clear(r.Rest())
	clear(r.Raw(2))
	r.Take(1)
	clear(r.Rest())
	r.Raw(9)
	if !bytes.Equal(whole, before) {
		t.Errorf("%v became %v", before, whole)
	}
}

// R5: arguments are not retained: what becomes of them later is nothing to the writer and the reader.
func TestArgumentsNotRetained(t *testing.T) {
	arg, whole := roomy(counted(4))
	var w Writer
	w.Raw(arg)
	r := Read(arg)
	clear(whole)
	if got := w.Bytes(0); !bytes.Equal(got, counted(4)) {
		t.Errorf("the writer changed with the argument: %v", got)
	}
	if got := r.Rest(); !bytes.Equal(got, counted(4)) {
		t.Errorf("the rest changed with the argument: %v", got)
	}
	if got := r.Take(2); got != 0x0201 {
		t.Errorf("the number changed with the argument: %x", got)
	}
	if got := r.Raw(2); !bytes.Equal(got, []byte{3, 4}) {
		t.Errorf("the bytes changed with the argument: %v", got)
	}
}

// R5: results of Bytes are new: they share no memory with the writer, or with each other.
func TestBytesIsNew(t *testing.T) {
	var w Writer
	w.Raw(counted(5))
	for _, least := range []int{0, 5, 9} {
		first, second := w.Bytes(least), w.Bytes(least)
		want := slices.Clone(second)
		clear(first[:cap(first)])
		if !bytes.Equal(second, want) {
			t.Errorf("two results of Bytes(%d) share memory", least)
		}
		if got := w.Bytes(least); !bytes.Equal(got, want) {
			t.Errorf("the writer changed with a result of Bytes(%d): %v", least, got)
		}
	}
	early := w.Bytes(0)
	w.Put(1, 9)
	_ = append(early, 77)
	if got := w.Bytes(0); !bytes.Equal(got, []byte{1, 2, 3, 4, 5, 9}) || !bytes.Equal(early, counted(5)) {
		t.Errorf("the writer has %v, the earlier result is %v", got, early)
	}
	if got := w.Raw(w.Bytes(0)).Bytes(0); !bytes.Equal(got, []byte{1, 2, 3, 4, 5, 9, 1, 2, 3, 4, 5, 9}) {
		t.Errorf("appended to itself: %v", got)
	}
}

// R5: results of Raw and Rest are new: they share no memory with the reader, or with each other.
func TestReadIsNew(t *testing.T) {
	r := Read(counted(8))
	first := r.Raw(2)
	before, second := r.Rest(), r.Rest()
	clear(first[:cap(first)])
	clear(before[:cap(before)])
	if !bytes.Equal(second, []byte{3, 4, 5, 6, 7, 8}) {
		t.Errorf("two results share memory: %v", second)
	}
	_ = append(first[:0], 77, 77, 77, 77)
	clear(second[:cap(second)])
	if got := r.Raw(6); !bytes.Equal(got, []byte{3, 4, 5, 6, 7, 8}) {
		t.Errorf("the reader changed with its results: %v", got)
	}
}

// R6: two readers of the same bytes, and two writers, do not know of each other; capacity plays no part.
func TestObjectsApart(t *testing.T) {
	arg, _ := roomy(counted(4))
	one, two := Read(arg), Read(arg)
	if one.Take(5) != 0 || one.Good() {
		t.Error("spare capacity was read")
	}
	if got := two.Take(4); got != 0x04030201 || !two.Good() {
		t.Errorf("another reader: %x, good %t", got, two.Good())
	}
	var first, second Writer
	first.Put(1, 1)
	second.Put(1, 2)
	if !bytes.Equal(first.Bytes(0), []byte{1}) || !bytes.Equal(second.Bytes(0), []byte{2}) {
		t.Errorf("two writers have %v and %v", first.Bytes(0), second.Bytes(0))
	}
}
