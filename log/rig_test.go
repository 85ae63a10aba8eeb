package log

import (
	"bytes"
	"reflect"
	"testing"

	"drystone/api"
	"drystone/array"
	"drystone/disk"
	"drystone/geom"
	"drystone/note"
	"drystone/nv"
	"drystone/power"
	"drystone/table"
)

// rig is a log, and all of which it was made.
type rig struct {
	s     geom.Shape
	p     *power.Power
	disks []*disk.Disk
	n     *nv.Nv
	*Log
}

// small is the shape of the chapter's example: one slot, 4 segments of 2 stripes.
func small() geom.Shape {
	return geom.Shape{Members: 3, Block: 32, Segments: 4, Stripes: 2, Nv: 2, Logical: 1}
}

// wide is a shape of 3 slots, 6 segments of 4 stripes.
func wide() geom.Shape {
	return geom.Shape{Members: 5, Block: 40, Segments: 6, Stripes: 4, Nv: 12, Logical: 20}
}

// shapes are valid ones, the least and the greatest among them.
func shapes() []geom.Shape {
	return []geom.Shape{
		small(),
		wide(),
		{Members: 4, Block: 33, Segments: 5, Stripes: 3, Nv: 6, Logical: 8},
		{Members: 3, Block: 32, Segments: 64, Stripes: 16, Nv: 16, Logical: 915},
		{Members: 16, Block: 512, Segments: 64, Stripes: 16, Nv: 224, Logical: 12810},
	}
}

// made returns a new log of a shape, over disks that are blank.
func made(t *testing.T, s geom.Shape) *rig {
	t.Helper()
	r := &rig{s: s, p: power.New(-1)}
	r.n = nv.New(r.p)
	r.n.Set(nv.Root{Shape: s, Stale: -1})
	var l []array.Device
	for range s.Members {
		d := disk.New(r.p, s.Sectors(), s.Block)
		r.disks, l = append(r.disks, d), append(l, d)
	}
	a, err := array.New(l, r.n)
	if err != api.OK {
		t.Fatalf("array.New of %+v = %d", s, err)
	}
	r.Log = New(a, r.n)
	return r
}

// state is all that a log knows: what must not change when nothing is to change.
type state struct {
	places         []int
	segments       []table.Segment
	segment, index int
	records        []nv.Record
	root           nv.Root
}

// state returns what the log knows now.
func (r *rig) state() state {
	return state{
		places:   r.Map.All(),
		segments: r.Table.All(),
		segment:  r.Log.Segment,
		index:    r.Index,
		records:  r.n.Records(),
		root:     r.n.Root(),
	}
}

// mustStay checks that the log knows what it knew.
func (r *rig) mustStay(t *testing.T, before state) {
	t.Helper()
	if now := r.state(); !reflect.DeepEqual(now, before) {
		t.Errorf("the log has %+v, not %+v any more", now, before)
	}
}

// mustAppend stages a record.
func (r *rig) mustAppend(t *testing.T, k nv.Kind, lba int, data []byte) {
	t.Helper()
	if err := r.n.Append(k, lba, data); err != api.OK {
		t.Fatalf("Append(%d, %d, %v) = %d", k, lba, data, err)
	}
}

// mustRead checks that Read returns these bytes and zeros up to a block.
func (r *rig) mustRead(t *testing.T, lba int, want []byte) {
	t.Helper()
	whole := padded(want, r.s.Block)
	if b, err := r.Read(lba); err != api.OK || !bytes.Equal(b, whole) {
		t.Errorf("Read(%d) = %v, %d, not %v", lba, b, err, whole)
	}
}

// mustBe checks where the next stripe is.
func (r *rig) mustBe(t *testing.T, segment, index int) {
	t.Helper()
	if r.Log.Segment != segment || r.Index != index {
		t.Errorf("the next stripe is %d of segment %d, not %d of %d", r.Index, r.Log.Segment, index, segment)
	}
}

// must checks a call's error.
func must(t *testing.T, what string, err, want api.Errno) {
	t.Helper()
	if err != want {
		t.Errorf("%s = %d, not %d", what, err, want)
	}
}

// sector returns what member m has of a stripe, its parity or one of its chunks.
func (r *rig) sector(t *testing.T, m, stripe int) []byte {
	t.Helper()
	b, err := r.disks[m].Read(1 + 2*r.s.Pages() + stripe)
	if err != api.OK {
		t.Fatalf("stripe %d of member %d: %d", stripe, m, err)
	}
	return b
}

// chunk returns a chunk of a stripe as its member has it.
func (r *rig) chunk(t *testing.T, stripe, k int) []byte {
	t.Helper()
	return r.sector(t, (stripe+1+k)%r.s.Members, stripe)
}

// mustStripe checks the note and the slots of a stripe, as the members have them, its parity, and that nothing waits.
func (r *rig) mustStripe(t *testing.T, stripe int, want note.Note, datas ...[]byte) {
	t.Helper()
	x, err := note.Decode(r.chunk(t, stripe, 0), r.s.Slots())
	if err != api.OK || !reflect.DeepEqual(x, want) {
		t.Errorf("the note of stripe %d is %+v, %d, not %+v", stripe, x, err, want)
	}
	for i := range r.s.Slots() {
		var data []byte
		if i < len(datas) {
			data = datas[i]
		}
		if got := r.chunk(t, stripe, 1+i); !bytes.Equal(got, padded(data, r.s.Block)) {
			t.Errorf("slot %d of stripe %d is %v, not %v", i, stripe, got, data)
		}
	}
	all := make([]byte, r.s.Block)
	for m, d := range r.disks {
		for i, c := range r.sector(t, m, stripe) {
			all[i] ^= c
		}
		if len(d.Waiting()) > 0 {
			t.Errorf("sectors %v of member %d wait", d.Waiting(), m)
		}
	}
	if !bytes.Equal(all, make([]byte, r.s.Block)) {
		t.Errorf("all sectors of stripe %d give %v, not zeros", stripe, all)
	}
}

// padded returns bytes and zeros up to block of them.
func padded(b []byte, block int) []byte {
	return append(bytes.Clone(b), make([]byte, max(block-len(b), 0))...)
}

// full returns a block of which each byte is c.
func (r *rig) full(c byte) []byte {
	return bytes.Repeat([]byte{c}, r.s.Block)
}

// noteWith returns a note of the shape with these entries and None in the other slots.
func (r *rig) noteWith(seq uint64, next int, entries ...note.Entry) note.Note {
	x := note.Note{Seq: seq, Next: next, Slots: make([]note.Entry, r.s.Slots())}
	copy(x.Slots, entries)
	return x
}

// write, move and trim are entries of a note.
func write(lba int) note.Entry { return note.Entry{Kind: nv.Write, Lba: lba} }
func move(lba int) note.Entry  { return note.Entry{Kind: nv.Move, Lba: lba} }
func trim(lba int) note.Entry  { return note.Entry{Kind: nv.Trim, Lba: lba} }

// none is the entry of a slot that is not used.
func none() note.Entry { return note.Entry{} }

// use opens segments until as many are free as are wanted; it leaves the next stripe where it is.
func (r *rig) use(free int) {
	for i := range r.s.Segments {
		if r.Table.Many(table.Free) <= free {
			return
		}
		r.Table.Open(i)
	}
}
