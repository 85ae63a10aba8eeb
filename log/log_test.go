package log

import (
	"math"
	"reflect"
	"testing"

	"drystone/api"
	"drystone/geom"
	"drystone/note"
	"drystone/nv"
	"drystone/power"
	"drystone/table"
)

// TestExample: the chapter's example.
func TestExample(t *testing.T) {
	if got := made(t, small()).Usable(); got != 7 {
		t.Errorf("Usable = %d, not 7", got)
	}
}

// TestNew: P15.1: a new log has the shape of the root, no block is mapped, segment 0 is open and all others are free; nothing was done with the members or the memory for that.
func TestNew(t *testing.T) {
	for _, s := range shapes() {
		r := made(t, s)
		if r.Shape != s || r.Log.Nv != r.n || r.Log.Array == nil {
			t.Errorf("the log of %+v is %+v", s, r.Log)
		}
		if r.Map.Len() != s.Logical || r.Map.Many() != 0 {
			t.Errorf("%d blocks, not %d, of which %d are mapped", r.Map.Len(), s.Logical, r.Map.Many())
		}
		want := make([]table.Segment, s.Segments)
		want[0].State = table.Open
		if got := r.Table.All(); !reflect.DeepEqual(got, want) {
			t.Errorf("the segments are %v", got)
		}
		r.mustBe(t, 0, 0)
		// The one operation is that of the rig, which sets the root.
		if r.p.Used() != 1 {
			t.Errorf("%d operations", r.p.Used())
		}
	}
}

// TestNewOverOld: P15.1, R6: a new log is the same whatever the root has beside the shape, whatever is staged, and whatever an earlier log over the same members did.
func TestNewOverOld(t *testing.T) {
	r := made(t, wide())
	for i := range 9 {
		r.mustAppend(t, nv.Write, i, []byte{1})
	}
	must(t, "Drain", r.Drain(), api.OK)
	r.mustAppend(t, nv.Write, 3, []byte{2})
	r.n.Set(nv.Root{Shape: r.s, Gen: 9, Durable: 77, Stale: 1})
	other := &rig{s: r.s, p: r.p, disks: r.disks, n: r.n, Log: New(r.Log.Array, r.n)}
	fresh := made(t, wide()).state()
	fresh.root, fresh.records = r.n.Root(), r.n.Records()
	other.mustStay(t, fresh)
	if r.Index != 3 || r.Map.Many() != 9 {
		t.Errorf("the earlier log is at %d and has %d blocks now", r.Index, r.Map.Many())
	}
	other.mustRead(t, 3, []byte{2})
	other.mustRead(t, 4, nil)
}

// TestNext: P15.1: the number of the next stripe, whether it is a last one, and how many are usable, at each index of each segment, whatever order the segments come in.
func TestNext(t *testing.T) {
	for _, s := range shapes() {
		r := made(t, s)
		segment := 0
		for count := range s.Segments {
			for index := range s.Stripes {
				if got := r.Stripe(); got != segment*s.Stripes+index {
					t.Errorf("Stripe = %d at %d of segment %d", got, index, segment)
				}
				if got := r.Last(); got != (index == s.Stripes-1) {
					t.Errorf("Last = %t at %d", got, index)
				}
				if got, want := r.Usable(), s.All()-count*s.Stripes-index-1; got != want {
					t.Errorf("Usable = %d, not %d, at %d of segment %d", got, want, index, segment)
				}
				r.mustBe(t, segment, index)
				// The last segment of all comes after the first one, then they descend.
				r.Apply(r.noteWith(1, s.Segments-1-count))
			}
			segment = s.Segments - 1 - count
		}
	}
}

// TestUsable: P15.1: what is left of the segment, all of each free segment, and one less; segments that are open or sealed do not count.
func TestUsable(t *testing.T) {
	r := made(t, wide())
	for _, c := range []struct{ applied, free, want int }{
		{0, 5, 23}, {0, 4, 19}, {0, 1, 7}, {0, 0, 3},
		{1, 5, 22}, {1, 1, 6}, {1, 0, 2},
		{3, 5, 20}, {3, 2, 8}, {3, 1, 4}, {3, 0, 0},
	} {
		r = made(t, wide())
		for range c.applied {
			r.Apply(r.noteWith(1, -1))
		}
		r.use(c.free)
		if got := r.Usable(); got != c.want {
			t.Errorf("Usable = %d, not %d, at %d with %d free", got, c.want, c.applied, c.free)
		}
	}
	for i := range r.s.Segments {
		r.Table.Seal(i, 3)
	}
	if got := r.Usable(); got != 0 {
		t.Errorf("Usable = %d with no segment that is free", got)
	}
	r.Table.Clear(1, 4)
	if got := r.Usable(); got != 8 {
		t.Errorf("Usable = %d with two that are free again", got)
	}
}

// TestRoom: P15.1: by hand: with 3 slots and segments of 4 stripes, 2 records need 1 stripe for one more, 3 need 2, and so do 5, but 6 need 3.
func TestRoom(t *testing.T) {
	for _, c := range []struct {
		applied, free, records int
		want                   bool
	}{
		{0, 5, 0, true}, {0, 5, 12, true},
		// Usable is 7: 3 stripes more than a segment has.
		{0, 1, 0, true}, {0, 1, 2, true}, {0, 1, 3, true}, {0, 1, 5, true}, {0, 1, 6, true}, {0, 1, 8, true}, {0, 1, 9, false}, {0, 1, 12, false},
		// 6: 2 more.
		{1, 1, 3, true}, {1, 1, 5, true}, {1, 1, 6, false}, {1, 1, 7, false},
		// 5: 1 more.
		{2, 1, 0, true}, {2, 1, 1, true}, {2, 1, 2, true}, {2, 1, 3, false},
		// 4 and below: as many as a segment has, or fewer.
		{3, 1, 0, false}, {3, 1, 3, false}, {0, 0, 0, false}, {3, 0, 0, false}, {3, 0, 12, false},
		{3, 2, 11, true}, {3, 2, 12, false},
	} {
		r := made(t, wide())
		for range c.applied {
			r.Apply(r.noteWith(1, -1))
		}
		r.use(c.free)
		for i := range c.records {
			r.mustAppend(t, nv.Write, i, nil)
		}
		if got := r.Room(); got != c.want {
			t.Errorf("Room = %t with %d stripes written, %d segments free, %d records", got, c.applied, c.free, c.records)
		}
	}
}

// TestRoomEverywhere: P15.1: the same for each shape, at each index, with any number of free segments and of records.
func TestRoomEverywhere(t *testing.T) {
	for _, s := range shapes()[:4] {
		for index := range s.Stripes {
			r := made(t, s)
			for range index {
				r.Apply(r.noteWith(1, -1))
			}
			for free := min(s.Segments-1, 4); free >= 0; free-- {
				r.use(free)
				// As many stripes as can be filled so that all but one record fit.
				for needed := 1; r.n.Len() < s.Nv; needed = r.n.Len()/s.Slots() + 1 {
					if got, want := r.Room(), s.Stripes-index+s.Stripes*free-1-s.Stripes >= needed; got != want {
						t.Errorf("%+v: Room = %t at %d with %d free and %d records", s, got, index, free, r.n.Len())
					}
					r.mustAppend(t, nv.Trim, 0, nil)
				}
				r.n.Commit(0, math.MaxUint64)
			}
		}
	}
}

// TestRoomCountsRecords: P15.1: it is records that count, not blocks: several of one block are as many.
func TestRoomCountsRecords(t *testing.T) {
	r := made(t, wide())
	r.use(1)
	for i := range 9 {
		if !r.Room() {
			t.Errorf("no room with %d records", i)
		}
		r.mustAppend(t, nv.Write, 7, nil)
	}
	if r.Room() {
		t.Error("room with 9 records")
	}
}

// TestApplyKinds: P15.2: a slot with Write or Move maps its block to its place, one with Trim unmaps it, one with None does nothing.
func TestApplyKinds(t *testing.T) {
	r := made(t, wide())
	r.Apply(r.noteWith(1, -1, write(4), move(0), trim(9)))
	r.mustMapped(t, map[int]int{4: 0, 0: 1})
	r.mustLive(t, 2)
	r.Apply(r.noteWith(2, -1, note.Entry{Kind: nv.None, Lba: 4}, none(), write(19)))
	r.mustMapped(t, map[int]int{4: 0, 0: 1, 19: 5})
	r.mustLive(t, 3)
	r.Apply(r.noteWith(3, -1, trim(4), trim(4), trim(7)))
	r.mustMapped(t, map[int]int{0: 1, 19: 5})
	r.mustLive(t, 2)
	r.mustBe(t, 0, 3)
}

// TestApplyRemaps: P15.2: a block that was mapped is live in the new segment and no longer in the old one; one that is mapped again in its segment is live there once.
func TestApplyRemaps(t *testing.T) {
	r := made(t, wide())
	r.Apply(r.noteWith(1, -1, write(1), write(2), write(3)))
	r.Apply(r.noteWith(2, -1, write(3), write(4), move(2)))
	r.mustMapped(t, map[int]int{1: 0, 3: 3, 4: 4, 2: 5})
	r.mustLive(t, 4)
	r.Apply(r.noteWith(3, -1))
	r.Apply(r.noteWith(4, 3, trim(4), none(), write(1)))
	r.mustMapped(t, map[int]int{1: 11, 3: 3, 2: 5})
	r.mustLive(t, 3)
	// Segment 3 begins with stripe 12.
	r.Apply(r.noteWith(5, -1, move(3), trim(2), write(8)))
	r.mustMapped(t, map[int]int{1: 11, 3: 36, 8: 38})
	r.mustLive(t, 1, 0, 0, 2)
	for seq := range uint64(3) {
		r.Apply(r.noteWith(6+seq, 1))
	}
	r.Apply(r.noteWith(9, -1, move(8), move(1), trim(3)))
	r.mustMapped(t, map[int]int{8: 12, 1: 13})
	r.mustLive(t, 0, 2)
	r.mustBe(t, 1, 1)
}

// TestApplySameBlock: P15.2: a block in several slots of a note is what the last one of them tells.
func TestApplySameBlock(t *testing.T) {
	for _, c := range []struct {
		slots []note.Entry
		place int
	}{
		{[]note.Entry{write(5), write(5), write(5)}, 2},
		{[]note.Entry{write(5), move(5), none()}, 1},
		{[]note.Entry{write(5), trim(5), none()}, -1},
		{[]note.Entry{trim(5), write(5), none()}, 1},
		{[]note.Entry{trim(5), move(5), trim(5)}, -1},
		{[]note.Entry{write(5), trim(5), move(5)}, 2},
	} {
		for _, mapped := range []bool{false, true} {
			r := made(t, wide())
			if mapped {
				r.Apply(r.noteWith(1, -1, none(), none(), write(5)))
			}
			first, want := r.Stripe()*3, map[int]int{}
			if c.place >= 0 {
				want[5] = first + c.place
			}
			r.Apply(r.noteWith(2, -1, c.slots...))
			r.mustMapped(t, want)
			r.mustLive(t, len(want))
		}
	}
}

// TestApplyLast: P15.2: behind a last stripe its segment is sealed with the note's number, and the next one is opened and goes on from its index 0; an earlier stripe's Next does not matter.
func TestApplyLast(t *testing.T) {
	r := made(t, wide())
	for i, next := range []int{5, -1, 100} {
		r.Apply(r.noteWith(uint64(40+i), next, write(i)))
		r.mustBe(t, 0, i+1)
		if got := r.Table.At(0); got != (table.Segment{State: table.Open, Live: i + 1}) {
			t.Errorf("the segment is %v", got)
		}
	}
	r.Apply(r.noteWith(99, 4, write(3)))
	r.mustBe(t, 4, 0)
	want := make([]table.Segment, 6)
	want[0] = table.Segment{State: table.Sealed, Live: 4, Born: 99}
	want[4] = table.Segment{State: table.Open}
	if got := r.Table.All(); !reflect.DeepEqual(got, want) {
		t.Errorf("the segments are %v", got)
	}
	if r.Stripe() != 16 || r.Map.Get(3) != 9 {
		t.Errorf("stripe %d, block 3 in %d", r.Stripe(), r.Map.Get(3))
	}
}

// TestApplyAnyNext: P15.2: any segment may come next, the first one, the last one, one that is sealed, or the same one.
func TestApplyAnyNext(t *testing.T) {
	for next := range small().Segments {
		r := made(t, small())
		r.Table.Set(2, table.Segment{State: table.Sealed, Live: 5, Born: 8})
		r.Apply(r.noteWith(1, -1, write(0)))
		r.Apply(r.noteWith(2, next))
		r.mustBe(t, next, 0)
		want := []table.Segment{{State: table.Sealed, Live: 1, Born: 2}, {}, {State: table.Sealed, Live: 5, Born: 8}, {}}
		want[next].State = table.Open
		if got := r.Table.All(); !reflect.DeepEqual(got, want) {
			t.Errorf("behind a Next of %d the segments are %v", next, got)
		}
	}
}

// TestApplyNoSegment: P15.2: at a last stripe nothing changes if Next is no segment.
func TestApplyNoSegment(t *testing.T) {
	for _, s := range shapes()[:3] {
		r := made(t, s)
		for range s.Stripes - 1 {
			r.Apply(r.noteWith(1, -1, write(0)))
		}
		before := r.state()
		for _, next := range []int{-1, s.Segments, s.Segments + 1, -2, math.MinInt, math.MaxInt, 1 << 32, -1 << 32} {
			for _, e := range []note.Entry{write(0), move(0), trim(0), none()} {
				r.Apply(r.noteWith(7, next, e))
				r.mustStay(t, before)
			}
		}
	}
}

// TestApplyOddities: P1, P15.2: blocks that there are not are live nowhere, other kinds do nothing, missing slots neither, nor those that a stripe does not have.
func TestApplyOddities(t *testing.T) {
	r := made(t, wide())
	for _, lba := range []int{-1, 20, 21, 1 << 32, math.MinInt, math.MaxInt} {
		r = made(t, wide())
		r.Apply(r.noteWith(1, -1, write(lba), move(lba), trim(lba)))
		r.mustMapped(t, map[int]int{})
		r.mustLive(t, 0)
		r.mustBe(t, 0, 1)
	}
	for _, k := range []nv.Kind{-1, nv.Move + 1, 255, 256, math.MinInt, math.MaxInt} {
		r = made(t, wide())
		r.Apply(r.noteWith(1, -1, write(1)))
		r.Apply(r.noteWith(2, -1, note.Entry{Kind: k, Lba: 1}, note.Entry{Kind: k, Lba: 2}))
		r.mustMapped(t, map[int]int{1: 0})
		r.mustLive(t, 1)
	}
	r = made(t, wide())
	r.Apply(note.Note{Seq: 1, Next: -1})
	r.mustMapped(t, map[int]int{})
	r.Apply(note.Note{Seq: 1, Next: -1, Slots: []note.Entry{write(3)}})
	r.mustMapped(t, map[int]int{3: 3})
	r.Apply(note.Note{Seq: 1, Next: -1, Slots: []note.Entry{none(), none(), write(4), write(5), trim(3)}})
	r.mustMapped(t, map[int]int{3: 3, 4: 8})
	r.mustLive(t, 2)
	r.mustBe(t, 0, 3)
}

// TestNothingPanics: P1: over memories whose root is of no valid shape, of another one than the members', or set to one later, no call panics, and each of them ends.
func TestNothingPanics(t *testing.T) {
	odd := []geom.Shape{
		{},
		{Members: 2, Block: 32, Segments: 4, Stripes: 2, Nv: 9, Logical: 1},
		{Members: -5, Block: -1, Segments: -1, Stripes: -1, Nv: 9, Logical: -1},
		{Members: 1 << 60, Block: 1 << 60, Segments: 1 << 60, Stripes: 1 << 60, Nv: 9, Logical: 1 << 60},
		{Members: math.MinInt, Block: math.MinInt, Segments: math.MinInt, Stripes: math.MinInt, Nv: 9, Logical: math.MinInt},
		{Members: math.MaxInt, Block: math.MaxInt, Segments: math.MaxInt, Stripes: math.MaxInt, Nv: 9, Logical: math.MaxInt},
	}
	for _, s := range append(odd, shapes()...) {
		r := made(t, wide())
		n := nv.New(power.New(-1))
		n.Set(nv.Root{Shape: s, Stale: -1, Durable: math.MaxUint64})
		callAll(&rig{s: r.s, p: r.p, disks: r.disks, n: n, Log: New(r.Log.Array, n)})
		r.n.Set(nv.Root{Shape: s, Stale: math.MaxInt})
		callAll(r)
	}
}

// TestOddPlaces: P1: places and segments that there are not, which only a caller can have put into the map and the table, make no call panic.
func TestOddPlaces(t *testing.T) {
	for _, place := range []int{71, 72, 1 << 32, math.MaxInt} {
		r := made(t, wide())
		r.Map.Set(1, place)
		if b, err := r.Read(1); (err == api.OK) != (place == 71) || (b == nil) != (err != api.OK) {
			t.Errorf("Read of place %d = %v, %d", place, b, err)
		}
		r.Apply(r.noteWith(1, -1, write(1)))
		r.mustMapped(t, map[int]int{1: 0})
		callAll(r)
	}
}

// callAll calls everything, with any arguments.
func callAll(r *rig) {
	for _, x := range []int{-1, 0, 1, 3, 1 << 32, math.MinInt, math.MaxInt} {
		for _, k := range []nv.Kind{nv.None, nv.Write, nv.Trim, nv.Move, -1, math.MaxInt} {
			r.n.Append(k, x, make([]byte, 3))
			r.Apply(note.Note{Seq: math.MaxUint64, Next: x, Slots: []note.Entry{{Kind: k, Lba: x}, {Kind: k, Lba: 1}}})
			r.Apply(note.Note{})
			r.Read(x)
		}
		r.Stripe()
		r.Last()
		r.Usable()
		r.Room()
		r.Destage()
	}
	r.Drain()
}

// TestPromoted: DOC.md, Ways: the methods of the shape and of the members are the log's, too.
func TestPromoted(t *testing.T) {
	r := made(t, wide())
	if r.Slots() != 3 || r.Sectors() != r.s.Sectors() || r.Stale() != -1 || r.Broken() {
		t.Errorf("%d slots, %d sectors, member %d, %t", r.Slots(), r.Sectors(), r.Stale(), r.Broken())
	}
	must(t, "Lose", r.Lose(3), api.OK)
	if r.Log.Array.Stale() != 3 || r.Stale() != 3 {
		t.Errorf("member %d", r.Stale())
	}
}

// mustMapped checks that these blocks are mapped to these places, and no others.
func (r *rig) mustMapped(t *testing.T, want map[int]int) {
	t.Helper()
	got := map[int]int{}
	for lba, place := range r.Map.All() {
		if place >= 0 {
			got[lba] = place
		}
	}
	if !reflect.DeepEqual(got, want) {
		t.Errorf("the blocks are in %v, not in %v", got, want)
	}
}

// mustLive checks how many blocks are live in the first segments; in the others none is.
func (r *rig) mustLive(t *testing.T, want ...int) {
	t.Helper()
	for i, s := range r.Table.All() {
		live := 0
		if i < len(want) {
			live = want[i]
		}
		if s.Live != live {
			t.Errorf("%d blocks are live in segment %d, not %d", s.Live, i, live)
		}
	}
}
