package table

import (
	"math"
	"slices"
	"testing"
)

// nowheres are the segments that a table of n does not have: the nearest ones and the farthest ones.
func nowheres(n int) []int {
	return []int{-1, n, -2, n + 1, -n - 1, 65536, 1 << 32, -1 << 32, math.MinInt, math.MaxInt}
}

// varied are segments of each state, without live blocks, with some and with fewer than none; the last one's state is none of the three. No two are the same.
func varied() []Segment {
	return []Segment{
		{State: Sealed, Live: 3, Born: 7},
		{State: Free, Live: 0, Born: 9},
		{State: Open, Live: 0, Born: 1},
		{State: Sealed, Live: 0, Born: 12},
		{State: Free, Live: 5, Born: 0},
		{State: Sealed, Live: -1, Born: 2},
		{State: Open, Live: -4, Born: math.MaxUint64},
		{State: Sealed, Live: 0, Born: 3},
		{State: Free, Live: 0, Born: 0},
		{State: 3, Live: 0, Born: 5},
	}
}

// made returns a table with these segments.
func made(t *testing.T, l ...Segment) *Table {
	t.Helper()
	x := New(len(l))
	for i, s := range l {
		x.Set(i, s)
	}
	mustHold(t, x, l)
	return x
}

// mustHold checks that a table has these segments and no others, by each function that tells.
func mustHold(t *testing.T, x *Table, want []Segment) {
	t.Helper()
	if got := x.Len(); got != len(want) {
		t.Errorf("Len = %d, not %d", got, len(want))
	}
	if got := x.All(); !slices.Equal(got, want) {
		t.Errorf("All = %v, not %v", got, want)
	}
	for i, s := range want {
		if got := x.At(i); got != s {
			t.Errorf("At(%d) = %v, not %v", i, got, s)
		}
	}
	for _, i := range nowheres(len(want)) {
		if i >= 0 && i < len(want) {
			continue
		}
		if got := x.At(i); got != (Segment{}) {
			t.Errorf("At(%d) of %d segments = %v, not a zero one", i, len(want), got)
		}
	}
}

// mustAsk checks what First, Dead and Many say, which must not change anything.
func mustAsk(t *testing.T, x *Table, first int, dead []int, many ...int) {
	t.Helper()
	before := x.All()
	if got := x.First(); got != first {
		t.Errorf("First = %d, not %d: %v", got, first, before)
	}
	if got := x.Dead(); !slices.Equal(got, dead) {
		t.Errorf("Dead = %v, not %v: %v", got, dead, before)
	}
	for s, want := range many {
		if got := x.Many(State(s)); got != want {
			t.Errorf("Many(%d) = %d, not %d: %v", s, got, want, before)
		}
	}
	mustHold(t, x, before)
}

// TestStates: the types of the chapter: the states are numbered from 0, and a zero segment is a free one.
func TestStates(t *testing.T) {
	if Free != 0 || Open != 1 || Sealed != 2 {
		t.Errorf("Free, Open, Sealed = %d, %d, %d", Free, Open, Sealed)
	}
	if s := (Segment{}); s.State != Free || s.Live != 0 || s.Born != 0 {
		t.Errorf("a zero segment = %v", s)
	}
}

// TestExample: the chapter's example.
func TestExample(t *testing.T) {
	x := New(2)
	x.Open(0)
	if got := x.First(); got != 1 {
		t.Errorf("First = %d, not 1", got)
	}
}

// TestNew: P12.1: n zero segments; a negative n counts as 0, and there are at most 65536.
func TestNew(t *testing.T) {
	for _, c := range []struct{ n, want int }{
		{0, 0}, {-1, 0}, {-5, 0}, {math.MinInt, 0}, {math.MinInt + 1, 0},
		{1, 1}, {2, 2}, {64, 64}, {65535, 65535}, {65536, 65536},
		{65537, 65536}, {1 << 32, 65536}, {math.MaxInt, 65536},
	} {
		x := New(c.n)
		mustHold(t, x, make([]Segment, c.want))
		first := 0
		if c.want == 0 {
			first = -1
		}
		mustAsk(t, x, first, nil, c.want, 0, 0, 0)
	}
}

// TestNewApart: P12.1, R6: two tables have nothing in common.
func TestNewApart(t *testing.T) {
	x, y := New(2), New(2)
	x.Seal(0, 5)
	x.Live(1, 5)
	mustHold(t, y, []Segment{{}, {}})
	y.Open(1)
	mustHold(t, x, []Segment{{State: Sealed, Born: 5}, {Live: 5}})
}

// TestLargest: P12.1: the last segment of a table of the most that there are is one like any other.
func TestLargest(t *testing.T) {
	x := New(math.MaxInt)
	x.Open(0)
	x.Seal(65535, 8)
	x.Set(65536, Segment{State: Sealed, Live: 1, Born: 1})
	if got := x.At(65535); got != (Segment{State: Sealed, Born: 8}) {
		t.Errorf("At(65535) = %v", got)
	}
	mustAsk(t, x, 1, []int{65535}, 65534, 1, 1)
	x.Clear(65535, 65536)
	mustAsk(t, x, 1, nil, 65535, 1, 0)
}

// TestSet: P12.1: Set sets one segment as a whole, and no other; it may be set again.
func TestSet(t *testing.T) {
	for i := range varied() {
		for _, s := range append(varied(), Segment{State: -1, Live: math.MinInt, Born: math.MaxUint64}, Segment{State: math.MaxInt, Live: math.MaxInt}) {
			want := varied()
			x := made(t, want...)
			x.Set(i, s)
			want[i] = s
			mustHold(t, x, want)
			x.Set(i, Segment{})
			want[i] = Segment{}
			mustHold(t, x, want)
		}
	}
}

// TestLive: P12.1: Live adds to the live blocks of one segment, whatever its state; nothing else of it changes, and no other segment.
func TestLive(t *testing.T) {
	for i, s := range varied() {
		want := varied()
		x := made(t, want...)
		live := s.Live
		for _, more := range []int{1, 1, 30, -2, 0, -30, -5, -1, 1000, math.MaxInt / 2, -math.MaxInt / 2} {
			x.Live(i, more)
			live += more
			want[i].Live = live
			mustHold(t, x, want)
		}
	}
}

// TestLiveFarthest: P12.1, P1: there is nothing that Live cannot add, even beyond the greatest int.
func TestLiveFarthest(t *testing.T) {
	for _, c := range []struct{ live, more, want int }{
		{0, math.MaxInt, math.MaxInt},
		{0, math.MinInt, math.MinInt},
		{math.MaxInt, math.MinInt, -1},
		{-1, math.MaxInt, math.MaxInt - 1},
		{math.MaxInt, 1, math.MinInt},
		{math.MinInt, -1, math.MaxInt},
	} {
		x := made(t, Segment{State: Sealed, Live: c.live, Born: 4})
		x.Live(0, c.more)
		mustHold(t, x, []Segment{{State: Sealed, Live: c.want, Born: 4}})
	}
}

// TestOpen: P12.1: Open sets the state of a segment, whatever it was, and nothing else of it; several may be open.
func TestOpen(t *testing.T) {
	want := varied()
	x := made(t, want...)
	for i := range want {
		for range 2 {
			x.Open(i)
			want[i].State = Open
			mustHold(t, x, want)
		}
	}
}

// TestSeal: P12.1: Seal sets the state of a segment and the number of its stripe, whatever they were; its live blocks stay.
func TestSeal(t *testing.T) {
	for _, born := range []uint64{0, 1, 258, 1 << 63, math.MaxUint64} {
		want := varied()
		x := made(t, want...)
		for i := range want {
			x.Seal(i, born)
			want[i].State, want[i].Born = Sealed, born
			mustHold(t, x, want)
		}
		x.Seal(3, born+2)
		want[3].Born = born + 2
		mustHold(t, x, want)
	}
}

// TestClear: P12.1: Clear sets the segments that it is given to zero, and no others: none, one, several, one twice, some that there are not.
func TestClear(t *testing.T) {
	n := len(varied())
	for _, c := range []struct{ given, cleared []int }{
		{nil, nil},
		{[]int{}, nil},
		{[]int{0}, []int{0}},
		{[]int{n - 1}, []int{n - 1}},
		{[]int{3, 5}, []int{3, 5}},
		{[]int{7, 6, 2}, []int{2, 6, 7}},
		{[]int{4, 4}, []int{4}},
		{[]int{4, 0, 4}, []int{0, 4}},
		{[]int{-1, 5, n, 6, math.MinInt, math.MaxInt, 0}, []int{0, 5, 6}},
		{nowheres(n), nil},
		{[]int{9, 8, 7, 6, 5, 4, 3, 2, 1, 0}, []int{0, 1, 2, 3, 4, 5, 6, 7, 8, 9}},
	} {
		want := varied()
		x := made(t, want...)
		x.Clear(c.given...)
		for _, i := range c.cleared {
			want[i] = Segment{}
		}
		mustHold(t, x, want)
	}
	want := varied()
	x := made(t, want...)
	x.Clear(0)
	x.Clear()
	x.Clear(2, 5)
	want[0], want[2], want[5] = Segment{}, Segment{}, Segment{}
	mustHold(t, x, want)
}

// TestNowhere: P12.1: what is set of a segment that there is not changes nothing; At answers with a zero one (which mustHold asks).
func TestNowhere(t *testing.T) {
	for _, l := range [][]Segment{varied(), {{State: Sealed, Live: 1, Born: 1}}, nil} {
		x := made(t, l...)
		for _, i := range nowheres(len(l)) {
			if i >= 0 && i < len(l) {
				continue
			}
			x.Set(i, Segment{State: Sealed, Live: 8, Born: 8})
			mustHold(t, x, l)
			x.Live(i, 8)
			mustHold(t, x, l)
			x.Open(i)
			mustHold(t, x, l)
			x.Seal(i, 8)
			mustHold(t, x, l)
			x.Clear(i)
			mustHold(t, x, l)
		}
	}
}

// TestMany: P12.1: how many segments have a state: each of the three, or one that is none of them.
func TestMany(t *testing.T) {
	x := made(t, varied()...)
	for _, c := range []struct {
		state State
		want  int
	}{{Free, 3}, {Open, 2}, {Sealed, 4}, {3, 1}, {4, 0}, {-1, 0}, {math.MinInt, 0}, {math.MaxInt, 0}} {
		if got := x.Many(c.state); got != c.want {
			t.Errorf("Many(%d) = %d, not %d", c.state, got, c.want)
		}
	}
	x.Set(3, Segment{State: -1, Live: 2})
	mustAsk(t, x, 1, []int{7}, 3, 2, 3, 1)
	if got := x.Many(-1); got != 1 {
		t.Errorf("Many(-1) = %d, not 1", got)
	}
	mustAsk(t, New(0), -1, nil, 0, 0, 0, 0)
}

// TestFirst: P12.1: the first free segment, whatever lives in it: of several, the last one alone, none.
func TestFirst(t *testing.T) {
	for _, c := range []struct {
		states []State
		want   int
	}{
		{nil, -1},
		{[]State{Free}, 0},
		{[]State{Open}, -1},
		{[]State{Sealed}, -1},
		{[]State{3}, -1},
		{[]State{Free, Free, Free}, 0},
		{[]State{Free, Open, Free}, 0},
		{[]State{Sealed, Free, Open, Free}, 1},
		{[]State{-1, Open, Sealed, Free}, 3},
		{[]State{Open, Sealed, Open, 3, Free, Free, Sealed}, 4},
		{[]State{Open, Sealed, Sealed, -1, 3}, -1},
	} {
		for _, live := range []int{0, 6, -6} {
			x := New(len(c.states))
			for i, s := range c.states {
				x.Set(i, Segment{State: s, Live: live, Born: uint64(i)})
			}
			if got := x.First(); got != c.want {
				t.Errorf("First of %v = %d, not %d", x.All(), got, c.want)
			}
		}
	}
}

// TestFirstMoves: P12.1: First follows what is opened, sealed and cleared.
func TestFirstMoves(t *testing.T) {
	x := New(3)
	mustAsk(t, x, 0, nil, 3, 0, 0)
	x.Open(0)
	mustAsk(t, x, 1, nil, 2, 1, 0)
	x.Open(2)
	mustAsk(t, x, 1, nil, 1, 2, 0)
	x.Seal(1, 1)
	mustAsk(t, x, -1, []int{1}, 0, 2, 1)
	x.Clear(2)
	mustAsk(t, x, 2, []int{1}, 1, 1, 1)
	x.Clear(1)
	mustAsk(t, x, 1, nil, 2, 1, 0)
}

// TestDead: P12.1: in ascending order, those that are sealed and in which no block is live, and no others.
func TestDead(t *testing.T) {
	for _, c := range []struct {
		segments []Segment
		want     []int
	}{
		{nil, nil},
		{[]Segment{{State: Sealed}}, []int{0}},
		{[]Segment{{State: Sealed, Born: math.MaxUint64}}, []int{0}},
		{[]Segment{{State: Sealed, Live: 1}}, nil},
		{[]Segment{{State: Sealed, Live: -1}}, nil},
		{[]Segment{{State: Sealed, Live: math.MinInt}}, nil},
		{[]Segment{{State: Free}}, nil},
		{[]Segment{{State: Open}}, nil},
		{[]Segment{{State: 3}}, nil},
		{[]Segment{{State: -1}}, nil},
		{varied(), []int{3, 7}},
		{[]Segment{{State: Sealed, Born: 9}, {State: Sealed, Live: 2}, {State: Sealed, Born: 3}, {}, {State: Sealed, Born: 6}}, []int{0, 2, 4}},
		{[]Segment{{State: Free}, {State: Open}, {State: Sealed, Live: 1}, {State: Sealed, Live: -2}, {State: 3}}, nil},
	} {
		x := made(t, c.segments...)
		if got := x.Dead(); !slices.Equal(got, c.want) {
			t.Errorf("Dead of %v = %v, not %v", c.segments, got, c.want)
		}
	}
}

// TestDeadMoves: P12.1: Dead follows what lives, is opened, sealed and cleared.
func TestDeadMoves(t *testing.T) {
	x := New(3)
	x.Live(2, 2)
	x.Seal(2, 1)
	mustAsk(t, x, 0, nil, 2, 0, 1)
	x.Live(2, -1)
	mustAsk(t, x, 0, nil, 2, 0, 1)
	x.Live(2, -1)
	mustAsk(t, x, 0, []int{2}, 2, 0, 1)
	x.Seal(0, 2)
	mustAsk(t, x, 1, []int{0, 2}, 1, 0, 2)
	x.Open(2)
	mustAsk(t, x, 1, []int{0}, 1, 1, 1)
	x.Clear(0)
	mustAsk(t, x, 0, nil, 2, 1, 0)
}

// TestResultsShareNothing: R5: what All and Dead return is neither the table's nor an earlier result's, its spare capacity included.
func TestResultsShareNothing(t *testing.T) {
	x := made(t, varied()...)
	all, second := x.All(), x.All()
	dead, again := x.Dead(), x.Dead()
	spoil(all, Segment{State: 9, Live: 9, Born: 9})
	spoil(dead, 1)
	mustHold(t, x, varied())
	mustAsk(t, x, 1, []int{3, 7}, 3, 2, 4, 1)
	if !slices.Equal(second, varied()) || !slices.Equal(again, []int{3, 7}) {
		t.Errorf("the earlier results are %v and %v now", second, again)
	}
	third, also := x.All(), x.Dead()
	x.Clear(0, 1, 2, 3, 4, 5, 6, 7, 8, 9)
	if !slices.Equal(second, varied()) || !slices.Equal(third, varied()) || !slices.Equal(also, []int{3, 7}) {
		t.Errorf("Clear changed earlier results: %v, %v, %v", second, third, also)
	}
	none := New(0)
	spoil(append(none.All(), Segment{Live: 1}), Segment{Live: 2})
	spoil(append(none.Dead(), 5), 6)
	mustHold(t, none, nil)
}

// spoil overwrites a list and its spare capacity.
func spoil[E any](l []E, e E) {
	l = l[:cap(l)]
	for i := range l {
		l[i] = e
	}
}

// TestClearKeepsItsArguments: R5: what is passed to Clear is neither changed nor kept, its spare capacity included.
func TestClearKeepsItsArguments(t *testing.T) {
	whole := []int{3, -1, 0, 3, 99, 77, 77}
	want := slices.Clone(whole)
	x := made(t, varied()...)
	x.Clear(whole[:5]...)
	if !slices.Equal(whole, want) {
		t.Errorf("Clear changed %v to %v", want, whole)
	}
	segments := varied()
	segments[0], segments[3] = Segment{}, Segment{}
	spoil(whole, 7)
	mustHold(t, x, segments)
	mustAsk(t, x, 0, []int{7}, 5, 2, 2, 1)
}
