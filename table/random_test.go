package table

import (
	"math/rand"
	"slices"
	"testing"
)

// events is an independent statement of a table: what happened to it, from which each segment is worked out anew.
type events struct {
	n    int
	list []event
}

// event is something that happened to one segment.
type event struct {
	what string
	at   int
	set  Segment
	more int
	born uint64
}

// segment works out a segment from all that happened to it.
func (e *events) segment(i int) Segment {
	var s Segment
	for _, x := range e.list {
		if x.at != i {
			continue
		}
		switch x.what {
		case "set":
			s = x.set
		case "live":
			s = Segment{s.State, s.Live + x.more, s.Born}
		case "open":
			s = Segment{Open, s.Live, s.Born}
		case "seal":
			s = Segment{Sealed, s.Live, x.born}
		case "clear":
			s = Segment{}
		}
	}
	return s
}

// all works out all segments.
func (e *events) all() []Segment {
	var l []Segment
	for i := range e.n {
		l = append(l, e.segment(i))
	}
	return l
}

// happen lets something happen at random, to the table and in the list.
func happen(r *rand.Rand, x *Table, e *events) {
	i := r.Intn(e.n+4) - 2
	v := event{at: i, set: Segment{State(r.Intn(5) - 1), r.Intn(5) - 2, uint64(r.Intn(9))}, more: r.Intn(5) - 2, born: uint64(r.Intn(9))}
	switch r.Intn(5) {
	case 0:
		v.what = "set"
		x.Set(i, v.set)
	case 1:
		v.what = "live"
		x.Live(i, v.more)
	case 2:
		v.what = "open"
		x.Open(i)
	case 3:
		v.what = "seal"
		x.Seal(i, v.born)
	case 4:
		v.what = "clear"
		j := r.Intn(e.n+4) - 2
		x.Clear(i, j, i)
		e.list = append(e.list, event{what: "clear", at: j})
	}
	e.list = append(e.list, v)
}

// TestRandom: P12.1: whatever happens to a table, it is as its segments' histories tell.
func TestRandom(t *testing.T) {
	r := rand.New(rand.NewSource(12))
	for range 60 {
		e := &events{n: r.Intn(6)}
		x := New(e.n)
		for range 40 {
			happen(r, x, e)
			l := e.all()
			mustHold(t, x, l)
			var of [5]int
			var dead []int
			for i, s := range l {
				of[s.State+1]++
				if s.State == Sealed && s.Live == 0 {
					dead = append(dead, i)
				}
			}
			first := slices.IndexFunc(l, func(s Segment) bool { return s.State == Free })
			mustAsk(t, x, first, dead, of[1], of[2], of[3], of[4])
		}
	}
}
