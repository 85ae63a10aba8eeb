package log

import (
	"bytes"
	"math/rand"
	"testing"

	"drystone/api"
	"drystone/geom"
	"drystone/note"
	"drystone/nv"
	"drystone/power"
	"drystone/table"
)

// someShape returns a valid shape at random, of few stripes.
func someShape(r *rand.Rand) geom.Shape {
	s := geom.Shape{Members: 3 + r.Intn(5), Block: 48 + r.Intn(9), Segments: 4 + r.Intn(3), Stripes: 2 + r.Intn(3)}
	s.Nv = s.Slots() + r.Intn(s.Stripes*s.Slots()-s.Slots()+1)
	s.Logical = 1 + r.Intn(s.Most())
	return s
}

// walk is a log, and what is known of it without it.
type walk struct {
	*rig
	r *rand.Rand
	// blocks is what was staged last of each block.
	blocks map[int][]byte
	// born is the number of the stripe with which a segment was sealed, order the segments in which stripes are, as they were opened.
	born  map[int]uint64
	order []int
}

// TestRandom: P15.1 to P15.4: whatever is staged and destaged, with a member that fails somewhere on the way: each block is what was staged last of it, and what the log tells of itself is what follows from that.
func TestRandom(t *testing.T) {
	r := rand.New(rand.NewSource(15))
	for range 150 {
		w := &walk{rig: made(t, someShape(r)), r: r, blocks: map[int][]byte{}, born: map[int]uint64{}, order: []int{0}}
		w.disks[r.Intn(len(w.disks))].FailAt(r.Intn(3000))
		for range 150 {
			w.step(t)
			w.check(t)
			if t.Failed() {
				t.Fatalf("with the shape %+v", w.s)
			}
		}
	}
}

// step does one thing at random.
func (w *walk) step(t *testing.T) {
	t.Helper()
	switch w.r.Intn(6) {
	case 0:
		w.destage(t)
	case 1:
		// So that there is space: segments in which nothing is live are free again.
		if w.Table.Many(table.Free) == 0 {
			w.free()
		}
	default:
		w.put()
	}
}

// put stages a record of a block at random, if there is room for it in the memory.
func (w *walk) put() {
	lba, k := w.r.Intn(w.s.Logical), []nv.Kind{nv.Write, nv.Write, nv.Move, nv.Trim}[w.r.Intn(4)]
	var data []byte
	if k != nv.Trim {
		data = make([]byte, w.r.Intn(w.s.Block+1))
		w.r.Read(data)
	}
	if w.n.Append(k, lba, data) == api.OK {
		w.blocks[lba] = data
	}
}

// destage checks Destage by what the memory had before, and the log has now.
func (w *walk) destage(t *testing.T) {
	t.Helper()
	before, last := w.state(), w.Last()
	err := w.Destage()
	if len(before.records) == 0 || last && w.full() {
		want := api.OK
		if len(before.records) > 0 {
			want = api.ErrNoSpace
		}
		must(t, "Destage", err, want)
		w.mustStay(t, before)
		return
	}
	must(t, "Destage", err, api.OK)
	root := w.n.Root()
	if root.Durable != before.root.Durable+1 || w.n.Len() >= len(before.records) {
		t.Errorf("Durable is %d, %d records are left", root.Durable, w.n.Len())
	}
	if last {
		w.born[before.segment] = root.Durable
		w.order = append(w.order, w.Log.Segment)
		w.mustBe(t, firstFree(before.segments), 0)
	} else {
		w.mustBe(t, before.segment, before.index+1)
	}
}

// full reports whether no segment is free, by the order in which they were opened.
func (w *walk) full() bool {
	return len(w.order) == w.s.Segments
}

// firstFree returns the first segment that is free.
func firstFree(l []table.Segment) int {
	for i, s := range l {
		if s.State == table.Free {
			return i
		}
	}
	return -1
}

// free clears the segments in which no block is live.
func (w *walk) free() {
	for _, i := range w.Table.Dead() {
		w.Table.Clear(i)
		delete(w.born, i)
		for j, x := range w.order {
			if x == i {
				w.order = append(w.order[:j:j], w.order[j+1:]...)
				break
			}
		}
	}
}

// check holds all that the log tells against what is known without it.
func (w *walk) check(t *testing.T) {
	t.Helper()
	for range 3 {
		lba := w.r.Intn(w.s.Logical)
		if b, err := w.Read(lba); err != api.OK || !bytes.Equal(b, padded(w.blocks[lba], w.s.Block)) {
			t.Errorf("Read(%d) = %v, %d, not %v", lba, b, err, w.blocks[lba])
		}
	}
	live := map[int]int{}
	for _, place := range w.Map.All() {
		if place >= 0 {
			live[place/w.s.Slots()/w.s.Stripes]++
		}
	}
	free := w.s.Segments - len(w.order)
	for i, s := range w.Table.All() {
		want := table.Segment{Live: live[i], Born: w.born[i]}
		switch {
		case i == w.order[len(w.order)-1]:
			want.State = table.Open
		case w.born[i] > 0:
			want.State = table.Sealed
		}
		if s != want {
			t.Errorf("segment %d is %v, not %v", i, s, want)
		}
	}
	usable := w.s.Stripes - w.Index + w.s.Stripes*free - 1
	needed := w.n.Len()/w.s.Slots() + 1
	if w.Usable() != usable || w.Room() != (usable-w.s.Stripes >= needed) || w.Last() != (w.Index+1 == w.s.Stripes) || w.Stripe() != w.Log.Segment*w.s.Stripes+w.Index {
		t.Errorf("Usable = %d, Room = %t, Last = %t, Stripe = %d at %d of segment %d with %d free and %d records", w.Usable(), w.Room(), w.Last(), w.Stripe(), w.Index, w.Log.Segment, free, w.n.Len())
	}
}

// TestNotesTellAll: P15.2, P15.3: another log, to which the notes are applied that the members have, knows the same.
func TestNotesTellAll(t *testing.T) {
	r := rand.New(rand.NewSource(152))
	for range 60 {
		w := &walk{rig: made(t, someShape(r)), r: r, blocks: map[int][]byte{}}
		other := New(w.Log.Array, w.n)
		for range 100 {
			for range r.Intn(8) {
				w.put()
			}
			before := w.n.Root().Durable
			w.Destage()
			if w.n.Root().Durable == before {
				continue
			}
			x, err := note.Decode(w.chunk(t, other.Stripe(), 0), w.s.Slots())
			must(t, "Decode", err, api.OK)
			if x.Seq != before+1 {
				t.Errorf("the note's number is %d, not %d", x.Seq, before+1)
			}
			other.Apply(x)
		}
		again := &rig{n: w.n, Log: other}
		again.mustStay(t, w.state())
	}
}

// TestPowerAnywhere: P15.3: the power goes at an operation at random while stripes are written; what is mapped then is what its stripes have, and what is staged is there, too.
func TestPowerAnywhere(t *testing.T) {
	r := rand.New(rand.NewSource(153))
	for range 400 {
		w := &walk{rig: made(t, someShape(r)), r: r, blocks: map[int][]byte{}}
		for range 6 {
			for range r.Intn(w.s.Nv + 1) {
				w.put()
			}
			w.p.Limit(r.Intn(80))
			power.Run(func() { w.Drain() })
			w.p.Limit(-1)
			for _, d := range w.disks {
				d.Cycle(r.Uint64())
			}
			for lba := range w.s.Logical {
				w.mustRead(t, lba, w.blocks[lba])
			}
		}
		if t.Failed() {
			t.Fatalf("with the shape %+v", w.s)
		}
	}
}
