package xor

import (
	"bytes"
	"math"
	"math/rand"
	"slices"
	"testing"
)

// random makes a list of up to most slices of up to long bytes each, some of them nil.
func random(r *rand.Rand, most, long int) [][]byte {
	l := make([][]byte, r.Intn(most+1))
	for i := range l {
		if r.Intn(6) == 0 {
			continue
		}
		l[i] = make([]byte, r.Intn(long+1))
		r.Read(l[i])
	}
	return l
}

// at returns byte i of b, padded with zeros.
func at(b []byte, i int) byte {
	if i < len(b) {
		return b[i]
	}
	return 0
}

// plain computes the XOR bit by bit, byte by byte, of the slices for which with holds: an independent statement of Of and But.
func plain(l [][]byte, with func(k int) bool) []byte {
	n := 0
	for k, b := range l {
		if with(k) && len(b) > n {
			n = len(b)
		}
	}
	var sum []byte
	for i := range n {
		value := 0
		for bit := range 8 {
			ones := 0
			for k, b := range l {
				if with(k) && at(b, i)>>bit&1 == 1 {
					ones++
				}
			}
			value |= ones % 2 << bit
		}
		sum = append(sum, byte(value))
	}
	return sum
}

// copied makes a copy of a list and of its slices.
func copied(l [][]byte) [][]byte {
	c := slices.Clone(l)
	for i, b := range c {
		c[i] = slices.Clone(b)
	}
	return c
}

// same reports whether two lists have the same slices.
func same(l, m [][]byte) bool {
	return slices.EqualFunc(l, m, bytes.Equal)
}

// roomy makes a copy of l in which the list and each slice have spare capacity, the slices' filled with 0xAA; the whole list and the whole slices are returned, too.
func roomy(l [][]byte) (arg, whole [][]byte) {
	for _, b := range l {
		whole = append(whole, append(slices.Clone(b), bytes.Repeat([]byte{0xAA}, 8)...))
	}
	for range 4 {
		whole = append(whole, bytes.Repeat([]byte{0xAA}, 8))
	}
	arg = slices.Clone(whole)
	for i, b := range l {
		arg[i] = arg[i][:len(b)]
	}
	return arg[:len(l)], whole
}

// P6.1: the XOR of slices of the same length and of different lengths, wherever the longest is, with empty and nil ones among them.
func TestOf(t *testing.T) {
	for _, c := range []struct {
		name string
		l    [][]byte
		want []byte
	}{
		{"the chapter's example", [][]byte{{1, 2}, {3}}, []byte{2, 2}},
		{"one", [][]byte{{7, 0, 255}}, []byte{7, 0, 255}},
		{"one byte", [][]byte{{0x5A}}, []byte{0x5A}},
		{"one with zeros at its end", [][]byte{{7, 0, 0}}, []byte{7, 0, 0}},
		{"one of zeros", [][]byte{{0, 0}}, []byte{0, 0}},
		{"one empty", [][]byte{{}}, nil},
		{"one nil", [][]byte{nil}, nil},
		{"empty and nil ones alone", [][]byte{{}, nil, {}}, nil},
		{"two of a length", [][]byte{{0xF0, 0x0F}, {0xFF, 0xFF}}, []byte{0x0F, 0xF0}},
		{"three of a length", [][]byte{{1, 16}, {2, 32}, {4, 64}}, []byte{7, 112}},
		{"an odd number of ones", [][]byte{{1}, {1}, {1}}, []byte{1}},
		{"an even number of ones", [][]byte{{1}, {1}, {1}, {1}}, []byte{0}},
		{"the longest one first", [][]byte{{1, 2, 3}, {4, 5}, {6}}, []byte{3, 7, 3}},
		{"the longest one last", [][]byte{{6}, {4, 5}, {1, 2, 3}}, []byte{3, 7, 3}},
		{"the longest one in the middle", [][]byte{{6}, {1, 2, 3}, {4, 5}}, []byte{3, 7, 3}},
		{"two longest ones", [][]byte{{1, 2, 3}, {6}, {1, 2, 4}}, []byte{6, 0, 7}},
		{"zeros are the longest", [][]byte{{9}, {0, 0, 0}}, []byte{9, 0, 0}},
		{"empty first", [][]byte{{}, {1, 2}, {3}}, []byte{2, 2}},
		{"nil in the middle", [][]byte{{1, 2}, nil, {3}}, []byte{2, 2}},
		{"nil and empty last", [][]byte{{1, 2}, {3}, nil, {}}, []byte{2, 2}},
	} {
		if got := Of(c.l...); !bytes.Equal(got, c.want) {
			t.Errorf("%s: Of(%v) = %v, not %v", c.name, c.l, got, c.want)
		}
	}
}

// P6.1: of no slices there are no bytes.
func TestOfNone(t *testing.T) {
	if got := Of(); len(got) != 0 {
		t.Errorf("Of() = %v", got)
	}
	if got := Of(nil...); len(got) != 0 {
		t.Errorf("Of of a nil list = %v", got)
	}
	if got := Of([][]byte{}...); len(got) != 0 {
		t.Errorf("Of of an empty list = %v", got)
	}
}

// P6.1: all values of two bytes.
func TestOfAllBytes(t *testing.T) {
	for x := range 256 {
		for y := range 256 {
			if got := Of([]byte{byte(x)}, []byte{byte(y)}); len(got) != 1 || int(got[0]) != x^y {
				t.Fatalf("Of(%d, %d) = %v, not %d", x, y, got, x^y)
			}
		}
	}
}

// P6.1: the same slice twice cancels out, but counts for the length; three times it is itself.
func TestOfSameSlice(t *testing.T) {
	b := []byte{1, 2, 255}
	if got := Of(b, b); !bytes.Equal(got, []byte{0, 0, 0}) {
		t.Errorf("a slice twice: %v", got)
	}
	if got := Of(b, b, b); !bytes.Equal(got, b) {
		t.Errorf("a slice three times: %v", got)
	}
	if got := Of(b, []byte{8}, b); !bytes.Equal(got, []byte{8, 0, 0}) {
		t.Errorf("a slice twice, with another: %v", got)
	}
	if got := Of(b, b[1:]); !bytes.Equal(got, []byte{3, 253, 255}) {
		t.Errorf("a slice and a part of it: %v", got)
	}
}

// P6.1: slices of all lengths, so that none is handled by parts of a fixed size alone.
func TestOfLengths(t *testing.T) {
	r := rand.New(rand.NewSource(1))
	for n := range 600 {
		l := [][]byte{make([]byte, n), make([]byte, n/2), make([]byte, n)}
		for _, b := range l {
			r.Read(b)
		}
		if got, want := Of(l...), plain(l, func(int) bool { return true }); !bytes.Equal(got, want) {
			t.Fatalf("Of slices of %d bytes is wrong", n)
		}
	}
}

// P6.1: many slices, more than there are members.
func TestOfMany(t *testing.T) {
	var l [][]byte
	for i := range 1000 {
		l = append(l, []byte{byte(i)}, []byte{0, byte(i / 256)})
	}
	if got, want := Of(l...), plain(l, func(int) bool { return true }); !bytes.Equal(got, want) {
		t.Errorf("Of %d slices = %v, not %v", len(l), got, want)
	}
}

// P6.1: random lists give what is counted bit by bit, for Of, and for But with each index and with some that there are not.
func TestRandom(t *testing.T) {
	r := rand.New(rand.NewSource(2))
	for range 3000 {
		l := random(r, 7, 9)
		if got, want := Of(l...), plain(l, func(int) bool { return true }); !bytes.Equal(got, want) {
			t.Fatalf("Of(%v) = %v, not %v", l, got, want)
		}
		for i := -2; i < len(l)+2; i++ {
			if got, want := But(l, i), plain(l, func(k int) bool { return k != i }); !bytes.Equal(got, want) {
				t.Fatalf("But(%v, %d) = %v, not %v", l, i, got, want)
			}
		}
	}
}

// P6.1: all but the first, one in the middle and the last, and all for an index that there is not.
func TestBut(t *testing.T) {
	l := [][]byte{{1}, {2}, {4}}
	for _, c := range []struct {
		i    int
		want byte
	}{
		{0, 6},
		{1, 5},
		{2, 3},
		{3, 7},
		{4, 7},
		{9, 7},
		{-1, 7},
		{-2, 7},
		{-3, 7},
		{256, 7},
		{1 << 32, 7},
		{math.MinInt, 7},
		{math.MaxInt, 7},
	} {
		if got := But(l, c.i); !bytes.Equal(got, []byte{c.want}) {
			t.Errorf("But(%v, %d) = %v, not %d", l, c.i, got, c.want)
		}
	}
}

// P6.1: the slice that is left out does not count for the length.
func TestButLength(t *testing.T) {
	l := [][]byte{{1, 2, 3, 4}, nil, {5, 6}, {7}}
	for i, want := range [][]byte{{2, 6}, {3, 4, 3, 4}, {6, 2, 3, 4}, {4, 4, 3, 4}} {
		if got := But(l, i); !bytes.Equal(got, want) {
			t.Errorf("But(%v, %d) = %v, not %v", l, i, got, want)
		}
	}
}

// P6.1: a slice that is there twice is left out once: it is the index that counts.
func TestButSameSlice(t *testing.T) {
	b := []byte{9, 1}
	l := [][]byte{b, {4}, b}
	for i, want := range [][]byte{{13, 1}, {0, 0}, {13, 1}} {
		if got := But(l, i); !bytes.Equal(got, want) {
			t.Errorf("But(%v, %d) = %v, not %v", l, i, got, want)
		}
	}
}

// P6.1: of no slices, and of one that is left out, there are no bytes.
func TestButNone(t *testing.T) {
	for _, i := range []int{0, 1, -1, math.MinInt, math.MaxInt} {
		if got := But(nil, i); len(got) != 0 {
			t.Errorf("But(nil, %d) = %v", i, got)
		}
		if got := But([][]byte{}, i); len(got) != 0 {
			t.Errorf("But of an empty list, %d = %v", i, got)
		}
	}
	one := [][]byte{{1, 2}}
	if got := But(one, 0); len(got) != 0 {
		t.Errorf("But(%v, 0) = %v", one, got)
	}
	if got := But(one, 1); !bytes.Equal(got, []byte{1, 2}) {
		t.Errorf("But(%v, 1) = %v", one, got)
	}
}

// P6.1: each slice is again what all the others and their parity give, which is what the members' redundancy rests on.
func TestRecovers(t *testing.T) {
	r := rand.New(rand.NewSource(3))
	for members := 3; members <= 16; members++ {
		for _, n := range []int{1, 32, 33, 512} {
			chunks := make([][]byte, members-1)
			for i := range chunks {
				chunks[i] = make([]byte, n)
				r.Read(chunks[i])
			}
			all := append(copied(chunks), Of(chunks...))
			if !None(Of(all...)) {
				t.Errorf("%d members, %d bytes: the chunks and their parity do not cancel out", members, n)
			}
			for i, want := range all {
				if got := But(all, i); !bytes.Equal(got, want) {
					t.Errorf("%d members, %d bytes: slice %d is not recovered", members, n, i)
				}
				lost := slices.Clone(all)
				lost[i] = nil
				if got := Of(lost...); !bytes.Equal(got, want) {
					t.Errorf("%d members, %d bytes: slice %d is not recovered by Of", members, n, i)
				}
			}
		}
	}
}

// P6.1: all bytes are zero, as they are if there are none, or some is not.
func TestNone(t *testing.T) {
	for _, c := range []struct {
		name string
		b    []byte
		want bool
	}{
		{"nil", nil, true},
		{"no bytes", []byte{}, true},
		{"one zero", []byte{0}, true},
		{"zeros", []byte{0, 0, 0, 0}, true},
		{"a block of zeros", make([]byte, 512), true},
		{"one other byte alone", []byte{1}, false},
		{"another byte at the first place", []byte{1, 0, 0}, false},
		{"another byte in the middle", []byte{0, 1, 0}, false},
		{"another byte at the last place", []byte{0, 0, 1}, false},
		{"two that cancel out", []byte{5, 5}, false},
		{"two whose sum is 256", []byte{128, 128}, false},
		{"none zero", []byte{255, 254, 1}, false},
	} {
		if got := None(c.b); got != c.want {
			t.Errorf("%s: None(%v) = %t", c.name, c.b, got)
		}
	}
}

// P6.1: any one bit, at any place and whatever the length, is seen.
func TestNoneEachBit(t *testing.T) {
	for n := range 70 {
		b := make([]byte, n)
		if !None(b) {
			t.Errorf("None of %d zeros is false", n)
		}
		for i := range 8 * n {
			b[i/8] = 1 << (i % 8)
			if None(b) {
				t.Errorf("%d bytes: bit %d is not seen", n, i)
			}
			b[i/8] = 0
		}
	}
}

// R6: what lies behind a slice's length does not count.
func TestCapacityDoesNotCount(t *testing.T) {
	arg, _ := roomy([][]byte{{1, 2}, {3}, {}})
	if got := Of(arg...); !bytes.Equal(got, []byte{2, 2}) {
		t.Errorf("Of(%v) = %v", arg, got)
	}
	if got := But(arg, 0); !bytes.Equal(got, []byte{3}) {
		t.Errorf("But(%v, 0) = %v", arg, got)
	}
	zeros, _ := roomy([][]byte{{0, 0}, {}})
	if !None(zeros[0]) || !None(zeros[1]) {
		t.Error("None saw what lies behind the bytes")
	}
}

// R5: no argument is changed: neither the list, nor its slices, nor the spare capacity of either.
func TestArgumentsUnmodified(t *testing.T) {
	for _, l := range [][][]byte{
		nil,
		{{1}},
		{{1, 2}, {3}},
		{{3}, {1, 2}},
		{{1, 2, 3}, nil, {4, 5, 6}, {}},
	} {
		arg, whole := roomy(l)
		rest := copied(arg[:cap(arg)])
		before := copied(whole)
		Of(arg...)
		for _, i := range []int{-1, 0, 1, 2, len(l) - 1, len(l), math.MinInt, math.MaxInt} {
			But(arg, i)
		}
		for _, b := range arg {
			None(b)
		}
		if !same(arg[:cap(arg)], rest) || !same(whole, before) {
			t.Errorf("%v became %v", before, whole)
		}
	}
}

// R5: no result shares its bytes with an argument, not even where it equals one: of one slice, or of one that is left.
func TestResultsAreNew(t *testing.T) {
	for _, c := range []struct {
		name string
		l    [][]byte
		call func(l [][]byte) []byte
		want []byte
	}{
		{"Of one", [][]byte{{1, 2}}, func(l [][]byte) []byte { return Of(l...) }, []byte{1, 2}},
		{"Of one and nil ones", [][]byte{nil, {1, 2}, nil}, func(l [][]byte) []byte { return Of(l...) }, []byte{1, 2}},
		{"Of two", [][]byte{{1, 2}, {3}}, func(l [][]byte) []byte { return Of(l...) }, []byte{2, 2}},
		{"Of two, the longer one last", [][]byte{{3}, {1, 2}}, func(l [][]byte) []byte { return Of(l...) }, []byte{2, 2}},
		{"But of one", [][]byte{{1, 2}}, func(l [][]byte) []byte { return But(l, 1) }, []byte{1, 2}},
		{"But with the first left", [][]byte{{1, 2}, {3}}, func(l [][]byte) []byte { return But(l, 1) }, []byte{1, 2}},
		{"But with the last left", [][]byte{{3}, {1, 2}}, func(l [][]byte) []byte { return But(l, 0) }, []byte{1, 2}},
		{"But of three", [][]byte{{1, 2}, {3}, {4, 5}}, func(l [][]byte) []byte { return But(l, 1) }, []byte{5, 7}},
	} {
		arg, whole := roomy(c.l)
		before := copied(whole)
		got := c.call(arg)
		clear(got[:cap(got)])
		if !same(whole, before) {
			t.Errorf("%s: an argument changed with the result", c.name)
		}
		got = c.call(arg)
		for _, b := range whole {
			clear(b)
		}
		clear(arg[:cap(arg)])
		if !bytes.Equal(got, c.want) {
			t.Errorf("%s: the result changed with an argument: %v, not %v", c.name, got, c.want)
		}
	}
}

// R5, R6: two results share no bytes, and nothing is kept between calls.
func TestResultsApart(t *testing.T) {
	l := [][]byte{{1, 2}, {3}}
	for name, call := range map[string]func() []byte{
		"Of":  func() []byte { return Of(l...) },
		"But": func() []byte { return But(l, 7) },
	} {
		first, second := call(), call()
		clear(first[:cap(first)])
		if third := call(); !bytes.Equal(second, []byte{2, 2}) || !bytes.Equal(third, []byte{2, 2}) {
			t.Errorf("%s: %v and %v after the first result was changed", name, second, third)
		}
	}
}
