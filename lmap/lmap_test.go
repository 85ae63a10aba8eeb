package lmap

import (
	"math"
	"slices"
	"testing"
)

// far are numbers far from every block, and from most places.
func far() []int {
	return []int{1 << 20, 1<<20 + 1, 1 << 32, -1 << 32, math.MinInt, math.MinInt + 1, math.MaxInt - 1, math.MaxInt}
}

// missing are numbers of blocks that a map of n blocks does not have: the nearest ones and the farthest ones.
func missing(n int) []int {
	l := []int{-1, -2, -Wide, -Wide - 1, -n, -n - 1, n, n + 1, n + Wide - 1, n + Wide}
	return slices.DeleteFunc(append(l, far()...), func(lba int) bool { return 0 <= lba && lba < n })
}

// unmapped are the places of a map of n blocks of which none is mapped.
func unmapped(n int) []int {
	return slices.Repeat([]int{-1}, n)
}

// made returns a map of these places, of which -1 is that of a block that was never set.
func made(t *testing.T, places ...int) *Map {
	t.Helper()
	m := New(len(places))
	for lba, place := range places {
		if place >= 0 {
			m.Set(lba, place)
		}
	}
	mustHold(t, m, places)
	return m
}

// mustHold checks that a map has these places, by Len, Get, Many and All.
func mustHold(t *testing.T, m *Map, want []int) {
	t.Helper()
	if got := m.Len(); got != len(want) {
		t.Errorf("Len = %d, not %d", got, len(want))
	}
	if got := m.All(); !slices.Equal(got, want) {
		t.Errorf("All = %v, not %v", got, want)
	}
	many := 0
	for lba, place := range want {
		if got := m.Get(lba); got != place {
			t.Errorf("Get(%d) = %d, not %d", lba, got, place)
		}
		if place >= 0 {
			many++
		}
	}
	if got := m.Many(); got != many {
		t.Errorf("Many = %d, not %d: %v", got, many, want)
	}
	for _, lba := range missing(len(want)) {
		if got := m.Get(lba); got != -1 {
			t.Errorf("Get(%d) of %d blocks = %d, not -1", lba, len(want), got)
		}
	}
}

// mustPages checks how many pages were allocated, which asking must not change.
func mustPages(t *testing.T, m *Map, want int) {
	t.Helper()
	before := m.All()
	for range 2 {
		if got := m.Pages(); got != want {
			t.Errorf("Pages = %d, not %d: %v", got, want, before)
		}
	}
	mustHold(t, m, before)
}

// mustSet sets a block and checks what Set returns.
func mustSet(t *testing.T, m *Map, lba, place, want int) {
	t.Helper()
	if got := m.Set(lba, place); got != want {
		t.Errorf("Set(%d, %d) = %d, not %d", lba, place, got, want)
	}
}

// mustWithin checks which blocks lie in a range of places.
func mustWithin(t *testing.T, m *Map, from, to int, want ...int) {
	t.Helper()
	if got := m.Within(from, to); !slices.Equal(got, want) {
		t.Errorf("Within(%d, %d) = %v, not %v: %v", from, to, got, want, m.All())
	}
}

// TestWide: the constant of the chapter.
func TestWide(t *testing.T) {
	if Wide != 16 {
		t.Errorf("Wide = %d", Wide)
	}
}

// TestExample: the chapter's example.
func TestExample(t *testing.T) {
	m := New(20)
	mustSet(t, m, 17, 5, -1)
	mustPages(t, m, 1)
	mustWithin(t, m, 5, 6, 17)
}

// TestNew: P13.1: a map of n blocks, none of which is mapped; a negative n counts as 0, and there are at most 2^20.
func TestNew(t *testing.T) {
	for _, c := range []struct{ n, want int }{
		{0, 0}, {-1, 0}, {-Wide, 0}, {math.MinInt, 0}, {math.MinInt + 1, 0},
		{1, 1}, {2, 2}, {Wide - 1, Wide - 1}, {Wide, Wide}, {Wide + 1, Wide + 1}, {2 * Wide, 2 * Wide},
		{1<<20 - 1, 1<<20 - 1}, {1 << 20, 1 << 20}, {1<<20 + 1, 1 << 20}, {1 << 32, 1 << 20}, {math.MaxInt, 1 << 20},
	} {
		m := New(c.n)
		if m.Len() != c.want {
			t.Fatalf("Len of New(%d) = %d, not %d", c.n, m.Len(), c.want)
		}
		mustHold(t, m, unmapped(c.want))
		mustPages(t, m, 0)
		mustWithin(t, m, math.MinInt, math.MaxInt)
	}
}

// TestNewApart: P13.1, R6: two maps have nothing in common.
func TestNewApart(t *testing.T) {
	x, y := New(Wide+1), New(Wide+1)
	mustSet(t, x, 0, 4, -1)
	mustHold(t, y, unmapped(Wide+1))
	mustPages(t, y, 0)
	mustSet(t, y, 0, 6, -1)
	mustSet(t, x, Wide, 7, -1)
	mustPages(t, x, 2)
	mustPages(t, y, 1)
	mustWithin(t, x, 0, 8, 0, Wide)
	mustWithin(t, y, 0, 8, 0)
}

// TestLargest: P13.1: the last block of a map of the most that there are is one like any other.
func TestLargest(t *testing.T) {
	const last = 1<<20 - 1
	m := New(math.MaxInt)
	mustSet(t, m, last, 8, -1)
	mustSet(t, m, last+1, 9, -1)
	mustPages(t, m, 1)
	mustWithin(t, m, 0, 10, last)
	want := unmapped(last + 1)
	want[last] = 8
	mustHold(t, m, want)
	mustSet(t, m, last, -1, 8)
	mustHold(t, m, unmapped(last+1))
}

// TestFull: P13.1: all blocks of the most that there are may be mapped.
func TestFull(t *testing.T) {
	m := New(1 << 20)
	want := unmapped(1 << 20)
	for lba := range want {
		want[lba] = len(want) - 1 - lba
		mustSet(t, m, lba, want[lba], -1)
	}
	mustHold(t, m, want)
	mustPages(t, m, 1<<20/Wide)
	mustWithin(t, m, 1<<20-3, math.MaxInt, 0, 1, 2)
	mustWithin(t, m, math.MinInt, 2, 1<<20-2, 1<<20-1)
}

// TestGet: P13.1: a block that is mapped, one beside it that is not, and those whose page was never allocated.
func TestGet(t *testing.T) {
	m := New(4 * Wide)
	m.Set(Wide+3, 70)
	for _, c := range []struct{ lba, want int }{
		{Wide + 3, 70}, {Wide + 2, -1}, {Wide + 4, -1}, {Wide, -1}, {2*Wide - 1, -1},
		{3, -1}, {0, -1}, {Wide - 1, -1}, {2 * Wide, -1}, {2*Wide + 3, -1}, {4*Wide - 1, -1},
		{-1, -1}, {4 * Wide, -1}, {math.MinInt, -1}, {math.MaxInt, -1}, {-Wide - 3, -1}, {5*Wide + 3, -1},
	} {
		if got := m.Get(c.lba); got != c.want {
			t.Errorf("Get(%d) = %d, not %d", c.lba, got, c.want)
		}
	}
	mustPages(t, m, 1)
}

// TestSet: P13.1: Set maps each block, and no other, and returns what Get returned before: the first time, over a place, over itself, when the block is unmapped, and after.
func TestSet(t *testing.T) {
	const n = 2*Wide + 5
	m := New(n)
	want := unmapped(n)
	for lba := range n {
		before := -1
		for _, place := range []int{lba + 100, 0, 0, math.MaxInt, 3, math.MaxInt, -1, -1, 4, math.MinInt, -7, 0, -2, 200 - lba} {
			if got := m.Get(lba); got != before {
				t.Errorf("Get(%d) = %d, not %d", lba, got, before)
			}
			mustSet(t, m, lba, place, before)
			before = max(place, -1)
			want[lba] = before
			mustHold(t, m, want)
		}
	}
}

// TestSetSamePlace: P13.1: a place may be that of several blocks; one is unmapped alone.
func TestSetSamePlace(t *testing.T) {
	m := made(t, 4, 4, -1, 4)
	mustWithin(t, m, 4, 5, 0, 1, 3)
	mustSet(t, m, 1, -1, 4)
	mustHold(t, m, []int{4, -1, -1, 4})
	mustWithin(t, m, 4, 5, 0, 3)
}

// TestSetMissing: P13.1: Set of a block that does not exist returns -1 and changes nothing, nor does it allocate a page.
func TestSetMissing(t *testing.T) {
	for _, n := range []int{0, 1, Wide - 1, Wide, Wide + 1, 3*Wide + 5} {
		empty := New(n)
		want := make([]int, n)
		for lba := range want {
			want[lba] = 2 * lba
		}
		full := made(t, want...)
		for _, lba := range missing(n) {
			for _, place := range []int{5, 0, math.MaxInt, -1, math.MinInt} {
				mustSet(t, empty, lba, place, -1)
				mustSet(t, full, lba, place, -1)
			}
			mustHold(t, empty, unmapped(n))
			mustHold(t, full, want)
		}
		mustPages(t, empty, 0)
		mustPages(t, full, (n+Wide-1)/Wide)
		mustWithin(t, empty, math.MinInt, math.MaxInt)
	}
}

// TestMany: P13.1: one more just if a block is mapped that was not, one less just if one is unmapped that was mapped.
func TestMany(t *testing.T) {
	m := New(2*Wide + 1)
	for _, c := range []struct{ lba, place, want int }{
		{0, 5, 1}, {0, 6, 1}, {0, 6, 1}, {1, 6, 2}, {2 * Wide, 0, 3}, {2 * Wide, math.MaxInt, 3},
		{Wide, -1, 3}, {3, -1, 3}, {0, -1, 2}, {0, -1, 2}, {0, math.MinInt, 2}, {0, 0, 3},
		{2*Wide + 1, 4, 3}, {-1, 4, 3}, {-1, -1, 3}, {1, -9, 2}, {2 * Wide, -1, 1}, {0, -2, 0}, {0, -2, 0},
	} {
		m.Set(c.lba, c.place)
		if got := m.Many(); got != c.want {
			t.Errorf("Many after Set(%d, %d) = %d, not %d", c.lba, c.place, got, c.want)
		}
	}
}

// TestPages: P13.1: one more page just if a block of it is mapped for the first time; none less if its blocks are unmapped.
func TestPages(t *testing.T) {
	m := New(3*Wide + 2)
	for _, c := range []struct{ lba, place, want int }{
		{0, -1, 0}, {3*Wide + 1, math.MinInt, 0}, {-1, 5, 0}, {3*Wide + 2, 5, 0}, {4 * Wide, 5, 0},
		{Wide, 5, 1}, {Wide, 5, 1}, {Wide, 6, 1}, {2*Wide - 1, 0, 1},
		{Wide - 1, -1, 1}, {Wide - 1, 0, 2}, {0, 1, 2},
		{2 * Wide, -3, 2}, {2 * Wide, math.MaxInt, 3},
		{3*Wide + 1, 9, 4}, {3 * Wide, 9, 4},
		{Wide, -1, 4}, {2*Wide - 1, -1, 4}, {Wide, -1, 4}, {Wide + 1, 7, 4}, {2 * Wide, math.MinInt, 4}, {2 * Wide, 2, 4},
		{3*Wide + 1, -1, 4}, {3 * Wide, -1, 4}, {3*Wide + 2, 5, 4}, {-Wide, 5, 4},
	} {
		m.Set(c.lba, c.place)
		if got := m.Pages(); got != c.want {
			t.Errorf("Pages after Set(%d, %d) = %d, not %d", c.lba, c.place, got, c.want)
		}
	}
	mustPages(t, m, 4)
}

// TestPagesOfOneBlock: P13.1: each block allocates its own page, whichever of the page's blocks it is.
func TestPagesOfOneBlock(t *testing.T) {
	const n = 2*Wide + 3
	for lba := range n {
		m := New(n)
		mustSet(t, m, lba, 1, -1)
		mustPages(t, m, 1)
		for other := range n {
			if other/Wide == lba/Wide {
				m.Set(other, 2)
			}
		}
		mustPages(t, m, 1)
	}
}

// TestLastPage: P13.1: a last page that is shorter than Wide has no more blocks than the map.
func TestLastPage(t *testing.T) {
	for _, n := range []int{1, Wide - 1, Wide, Wide + 1, 2*Wide - 1, 2*Wide + 1} {
		m := New(n)
		want := unmapped(n)
		for _, place := range []int{0, 3} {
			mustSet(t, m, n-1, place, want[n-1])
			want[n-1] = place
			for lba := n; lba < n+2*Wide; lba++ {
				mustSet(t, m, lba, 3, -1)
			}
			mustHold(t, m, want)
			mustPages(t, m, 1)
			mustWithin(t, m, math.MinInt, math.MaxInt, n-1)
		}
	}
}

// TestAll: P13.1: as many places as there are blocks, each as Get says; none for an empty map.
func TestAll(t *testing.T) {
	for _, n := range []int{0, -3, math.MinInt} {
		if got := New(n).All(); len(got) != 0 {
			t.Errorf("All of New(%d) = %v", n, got)
		}
	}
	m := New(Wide + 2)
	m.Set(Wide+1, 3)
	m.Set(0, 0)
	m.Set(2, math.MaxInt)
	m.Set(3, 3)
	m.Set(3, math.MinInt)
	want := []int{0, -1, math.MaxInt, -1, -1, -1, -1, -1, -1, -1, -1, -1, -1, -1, -1, -1, -1, 3}
	if got := m.All(); !slices.Equal(got, want) {
		t.Errorf("All = %v, not %v", got, want)
	}
}

// TestWithin: P13.1: the blocks from a place on and below another: from is inside, to is not; in ascending order, whatever their places are; blocks that are not mapped are in no range.
func TestWithin(t *testing.T) {
	places := unmapped(3 * Wide)
	places[0], places[1], places[5], places[Wide-1], places[Wide], places[2*Wide+1], places[3*Wide-1] = 6, 0, 5, 9, 0, 4, 5
	m := made(t, places...)
	all := []int{0, 1, 5, Wide - 1, Wide, 2*Wide + 1, 3*Wide - 1}
	for _, c := range []struct {
		from, to int
		want     []int
	}{
		{5, 6, []int{5, 3*Wide - 1}},
		{5, 7, []int{0, 5, 3*Wide - 1}},
		{4, 6, []int{5, 2*Wide + 1, 3*Wide - 1}},
		{4, 5, []int{2*Wide + 1}},
		{0, 1, []int{1, Wide}},
		{1, 4, nil},
		{7, 9, nil},
		{7, 10, []int{Wide - 1}},
		{9, 10, []int{Wide - 1}},
		{10, 20, nil},
		{10, math.MaxInt, nil},
		{0, 10, all},
		{0, math.MaxInt, all},
		{0, 9, []int{0, 1, 5, Wide, 2*Wide + 1, 3*Wide - 1}},
		{1, 10, []int{0, 5, Wide - 1, 2*Wide + 1, 3*Wide - 1}},
		{-1, 10, all},
		{math.MinInt, math.MaxInt, all},
		{-1, 1, []int{1, Wide}},
		{-9, 5, []int{1, Wide, 2*Wide + 1}},
		{-1, 0, nil},
		{-2, -1, nil},
		{math.MinInt, 0, nil},
		{math.MinInt, -1, nil},
		{math.MinInt, math.MinInt, nil},
		{0, 0, nil},
		{5, 5, nil},
		{6, 5, nil},
		{9, 0, nil},
		{5, -1, nil},
		{math.MaxInt, math.MinInt, nil},
		{math.MaxInt, math.MaxInt, nil},
	} {
		mustWithin(t, m, c.from, c.to, c.want...)
	}
	mustHold(t, m, places)
	mustPages(t, m, 3)
	mustWithin(t, New(0), math.MinInt, math.MaxInt)
	mustWithin(t, New(3), -1, 1)
}

// TestWithinMoves: P13.1: Within follows what is mapped, mapped again and unmapped.
func TestWithinMoves(t *testing.T) {
	m := New(2 * Wide)
	m.Set(Wide+1, 3)
	m.Set(2, 4)
	mustWithin(t, m, 3, 5, 2, Wide+1)
	m.Set(2, 5)
	mustWithin(t, m, 3, 5, Wide+1)
	m.Set(Wide+1, -1)
	mustWithin(t, m, 3, 5)
	mustWithin(t, m, -5, 5)
	m.Set(2, 3)
	m.Set(0, 4)
	mustWithin(t, m, 3, 5, 0, 2)
}

// TestWithinFarthest: P13.1: the greatest place there is lies below no other, and the one before it does.
func TestWithinFarthest(t *testing.T) {
	m := made(t, math.MaxInt, math.MaxInt-1, -1)
	mustWithin(t, m, 0, math.MaxInt, 1)
	mustWithin(t, m, math.MaxInt-1, math.MaxInt, 1)
	mustWithin(t, m, 0, math.MaxInt-1)
}

// TestNothingPanics: P1: whatever the arguments are, each function returns.
func TestNothingPanics(t *testing.T) {
	for _, n := range append(far(), 0, 1, Wide, Wide+1, -1) {
		m := New(n)
		numbers := append(missing(m.Len()), 0, 1, Wide-1, Wide, m.Len()-1)
		for _, a := range numbers {
			for _, place := range numbers {
				m.Get(a)
				m.Set(a, place)
			}
		}
		for _, a := range []int{math.MinInt, -1, 0, 1, math.MaxInt} {
			for _, b := range []int{math.MinInt, -1, 0, 1, math.MaxInt} {
				m.Within(a, b)
			}
		}
		m.Many()
		m.Pages()
		m.All()
	}
}

// TestResultsShareNothing: R5: what All and Within return is neither the map's nor an earlier result's, its spare capacity included.
func TestResultsShareNothing(t *testing.T) {
	places := []int{3, -1, 5, 4, 3, -1, 9, 0, 0, 1, 1, 2, 2, 3, 3, 4, 4, 5, -1}
	inside := []int{0, 2, 3, 4, 13, 14, 15, 16, 17}
	m := made(t, places...)
	all, second := m.All(), m.All()
	within, again := m.Within(3, 6), m.Within(3, 6)
	spoil(all, 77)
	spoil(within, 78)
	mustHold(t, m, places)
	mustWithin(t, m, 3, 6, inside...)
	mustPages(t, m, 2)
	if !slices.Equal(second, places) || !slices.Equal(again, inside) {
		t.Errorf("the earlier results are %v and %v now", second, again)
	}
	third, also := m.All(), m.Within(3, 6)
	for lba := range places {
		m.Set(lba, -1)
	}
	if !slices.Equal(second, places) || !slices.Equal(third, places) || !slices.Equal(again, inside) || !slices.Equal(also, inside) {
		t.Errorf("Set changed earlier results: %v, %v, %v, %v", second, third, again, also)
	}
	none := New(0)
	spoil(append(none.All(), 5), 6)
	spoil(append(none.Within(0, 9), 5), 6)
	mustHold(t, none, nil)
}

// spoil overwrites a list and its spare capacity.
func spoil(l []int, n int) {
	l = l[:cap(l)]
	for i := range l {
		l[i] = n
	}
}
