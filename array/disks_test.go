package array

import (
	"bytes"
	"math"
	"math/rand"
	"slices"
	"testing"

	"drystone/api"
	"drystone/disk"
	"drystone/geom"
	"drystone/nv"
	"drystone/power"
)

// disks is an array on disks, with what has to be read of it.
type disks struct {
	s     geom.Shape
	p     *power.Power
	n     *nv.Nv
	l     []*disk.Disk
	a     *Array
	kept  map[int][][]byte // the chunks of each stripe
	pages map[int][]byte   // the sectors that all members have
}

// disksOf makes an array on blank disks.
func disksOf(t *testing.T, s geom.Shape) *disks {
	t.Helper()
	d := &disks{s: s, p: power.New(-1), kept: map[int][][]byte{}, pages: map[int][]byte{}}
	d.n = nv.New(d.p)
	d.n.Set(rootOf(s, -1))
	for range s.Members {
		d.l = append(d.l, disk.New(d.p, s.Sectors(), s.Block))
	}
	d.open(t)
	return d
}

// open makes a new array on the same disks and the same memory.
func (d *disks) open(t *testing.T) {
	t.Helper()
	var l []Device
	for _, x := range d.l {
		l = append(l, x)
	}
	var err api.Errno
	if d.a, err = New(l, d.n); err != api.OK {
		t.Fatalf("New = %d", err)
	}
}

// put puts a stripe.
func (d *disks) put(t *testing.T, stripe, seed int) {
	t.Helper()
	d.kept[stripe] = chunksOf(d.s, seed)
	if err := d.a.Put(stripe, chunksOf(d.s, seed)); err != api.OK {
		t.Errorf("Put(%d) = %d", stripe, err)
	}
}

// same puts a sector that all members have.
func (d *disks) same(t *testing.T, i, seed int) {
	t.Helper()
	d.pages[i] = content(500, seed, d.s.Block)
	if err := d.a.PutSame(i, content(500, seed, d.s.Block)); err != api.OK {
		t.Errorf("PutSame(%d) = %d", i, err)
	}
}

// fill puts all stripes, and the sectors behind the label, and flushes.
func (d *disks) fill(t *testing.T) {
	t.Helper()
	for i := 1; i < d.s.StripeAt(0); i++ {
		d.same(t, i, i)
	}
	for stripe := range d.s.All() {
		d.put(t, stripe, stripe)
	}
}

// mendAll mends all stripes.
func (d *disks) mendAll(t *testing.T) {
	t.Helper()
	for stripe := range d.s.All() {
		if err := d.a.Mend(stripe); err != api.OK {
			t.Errorf("Mend(%d) = %d", stripe, err)
		}
	}
}

// label is what a member has as its sector 0.
func (d *disks) label(m int) []byte {
	return content(600, m, d.s.Block)
}

// raw reads a sector of a disk beside the array.
func (d *disks) raw(t *testing.T, m, i int) []byte {
	t.Helper()
	b, err := d.l[m].Read(i)
	if err != api.OK {
		t.Fatalf("sector %d of member %d: %d", i, m, err)
	}
	return b
}

// mustRead checks that all that was put reads as it was put last, and zeros what was not.
func (d *disks) mustRead(t *testing.T) {
	t.Helper()
	for stripe := range d.s.All() {
		d.mustReadStripe(t, stripe)
	}
	for i := 1; i < d.s.StripeAt(0); i++ {
		want := d.pages[i]
		if want == nil {
			want = make([]byte, d.s.Block)
		}
		if b, err := d.a.Same(i); err != api.OK || !bytes.Equal(b, want) {
			t.Errorf("Same(%d) = %v, %d, not %v", i, b, err, want)
		}
	}
}

func (d *disks) mustReadStripe(t *testing.T, stripe int) {
	t.Helper()
	for k := range d.s.Members - 1 {
		want := make([]byte, d.s.Block)
		if l := d.kept[stripe]; l != nil {
			want = l[k]
		}
		if b, err := d.a.Chunk(stripe, k); err != api.OK || !bytes.Equal(b, want) {
			t.Errorf("Chunk(%d, %d) = %v, %d, not %v", stripe, k, b, err, want)
		}
	}
}

// P11.1, P11.2: a disk that was replaced is blank, and is written again though it is not current.
func TestReplaceDisk(t *testing.T) {
	d := disksOf(t, shapes()[1])
	d.fill(t)
	d.l[2].Fail()
	if d.a.Put(0, chunksOf(d.s, 40)) != api.OK || d.a.Stale() != 2 || d.a.Replace(2) != api.OK || d.l[2].Dead() || d.a.Stale() != 2 {
		t.Fatalf("Stale %d, dead %t", d.a.Stale(), d.l[2].Dead())
	}
	for i := range d.s.Sectors() {
		if !slices.Equal(d.raw(t, 2, i), make([]byte, d.s.Block)) {
			t.Errorf("sector %d is not blank", i)
		}
	}
	if err := d.a.Put(3, chunksOf(d.s, 41)); err != api.OK || !bytes.Equal(d.raw(t, 2, d.s.StripeAt(3)), spread(d.s, 3, chunksOf(d.s, 41))[2]) {
		t.Errorf("Put = %d, and the new disk has not got it", err)
	}
	if err := d.a.PutSame(1, content(9, 9, d.s.Block)); err != api.OK || !bytes.Equal(d.raw(t, 2, 1), content(9, 9, d.s.Block)) {
		t.Errorf("PutSame = %d, and the new disk has not got it", err)
	}
	if d.a.Flush() != api.OK || len(d.l[2].Waiting()) != 0 {
		t.Error("the new disk was not flushed")
	}
}

// P11.2: the chunks of a stripe and their parity are on their members, all bits together noughts; nothing waits any more; each sector was written once, no other one at all.
func TestPut(t *testing.T) {
	for _, s := range shapes() {
		for stripe := range s.All() {
			d := disksOf(t, s)
			chunks := chunksOf(s, stripe)
			if err := d.a.Put(stripe, chunks); err != api.OK {
				t.Fatalf("Put(%d) = %d", stripe, err)
			}
			want := spread(s, stripe, chunks)
			sum := make([]byte, s.Block)
			for m, x := range d.l {
				if got := d.raw(t, m, s.StripeAt(stripe)); !bytes.Equal(got, want[m]) {
					t.Errorf("stripe %d: member %d has %v, not %v", stripe, m, got, want[m])
				}
				sum = together(sum, d.raw(t, m, s.StripeAt(stripe)))
				if len(x.Waiting()) != 0 {
					t.Errorf("stripe %d: %v of member %d wait", stripe, x.Waiting(), m)
				}
				for i := range s.Sectors() {
					if (x.Writes(i) == 1) != (i == s.StripeAt(stripe)) || x.Writes(i) > 1 {
						t.Errorf("stripe %d: sector %d of member %d was written %d times", stripe, i, m, x.Writes(i))
					}
				}
			}
			if slices.ContainsFunc(sum, func(c byte) bool { return c != 0 }) {
				t.Errorf("stripe %d: all members together are %v", stripe, sum)
			}
			for k, b := range chunks {
				if got, err := d.a.Chunk(stripe, k); err != api.OK || !bytes.Equal(got, b) {
					t.Errorf("Chunk(%d, %d) = %v, %d", stripe, k, got, err)
				}
			}
		}
	}
}

// P11.2: every stripe reads as it was put last, with all members and without each of them, and putting one changes no other.
func TestPutAgain(t *testing.T) {
	for _, s := range shapes() {
		for lost := -1; lost < s.Members; lost++ {
			d := disksOf(t, s)
			d.fill(t)
			for round, stripe := range []int{0, s.All() - 1, 1, 0, 0} {
				d.put(t, stripe, 50+round)
			}
			if lost >= 0 {
				d.l[lost].Fail()
			}
			d.mustRead(t)
			for round, stripe := range []int{1, s.All() - 1, 2, 1} {
				d.put(t, stripe, 70+round)
			}
			d.mustRead(t)
			if d.a.Broken() || d.a.Stale() != lost {
				t.Errorf("Stale %d, not %d", d.a.Stale(), lost)
			}
		}
	}
}

// P11.2: Flush flushes all members, whichever of them is not current; what was written stays.
func TestFlush(t *testing.T) {
	for _, s := range shapes() {
		for stale := -1; stale < s.Members; stale++ {
			d := disksOf(t, s)
			d.n.Set(rootOf(s, stale))
			for i := range s.Sectors() {
				if err := d.a.PutSame(i, content(0, i, s.Block)); err != api.OK {
					t.Errorf("PutSame(%d) = %d", i, err)
				}
			}
			for m, x := range d.l {
				if len(x.Waiting()) != s.Sectors() {
					t.Errorf("%d sectors of member %d wait", len(x.Waiting()), m)
				}
			}
			if err := d.a.Flush(); err != api.OK {
				t.Errorf("Flush = %d", err)
			}
			for m, x := range d.l {
				if len(x.Waiting()) != 0 {
					t.Errorf("%v of member %d wait, %d is not current", x.Waiting(), m, stale)
				}
				x.Cycle(0)
				for i := range s.Sectors() {
					if !bytes.Equal(d.raw(t, m, i), content(0, i, s.Block)) {
						t.Errorf("sector %d of member %d is lost", i, m)
					}
				}
			}
		}
	}
}

// P11.4: after Finish the member is not lost again by what it was, and everything that it got stays when the power goes.
func TestFinishFlushes(t *testing.T) {
	s := shapes()[1]
	d := disksOf(t, s)
	d.fill(t)
	d.a.Lose(2)
	d.a.Replace(2)
	d.mendAll(t)
	if err := d.a.Finish(d.label(2)); err != api.OK || len(d.l[2].Waiting()) != 0 {
		t.Errorf("Finish = %d, %v wait", err, d.l[2].Waiting())
	}
	d.l[2].Cycle(0)
	d.l[0].Fail()
	d.mustRead(t)
	if d.a.Stale() != 0 || d.a.Broken() {
		t.Errorf("Stale %d", d.a.Stale())
	}
}

// P9, P11.4: a member that was lost is replaced, mended and finished, while stripes and sectors are put again; afterwards any other one may be lost, and all reads as it was put. So for every two members.
func TestRebuild(t *testing.T) {
	for _, s := range shapes() {
		for first := range s.Members {
			for second := range s.Members {
				d := disksOf(t, s)
				d.fill(t)
				d.l[first].Fail()
				d.put(t, 1, 80)
				d.same(t, 1, 81)
				if err := d.a.Replace(first); err != api.OK {
					t.Fatalf("Replace = %d", err)
				}
				for stripe := range s.All() {
					if err := d.a.Mend(stripe); err != api.OK {
						t.Errorf("Mend(%d) = %d", stripe, err)
					}
					d.put(t, s.All()-1-stripe, 90+stripe)
					d.same(t, s.StripeAt(0)-1, 120+stripe)
				}
				d.mustRead(t)
				if err := d.a.Finish(d.label(first)); err != api.OK || d.a.Stale() != -1 || !bytes.Equal(d.raw(t, first, 0), d.label(first)) {
					t.Errorf("Finish = %d, Stale %d", err, d.a.Stale())
				}
				d.l[second].Fail()
				d.mustRead(t)
				d.put(t, 0, 150)
				d.mustRead(t)
				if d.a.Broken() || d.a.Stale() != second {
					t.Errorf("Stale %d, not %d", d.a.Stale(), second)
				}
			}
		}
	}
}

// keeps are which of the waiting sectors stay: none, all, some.
var keeps = [4]uint64{0, math.MaxUint64, 1, 2}

// P3.1, P11.2: the power goes at every single operation of Put: every other stripe reads as it was put; each member has the stripe as it was or as it was to be, according to what was written, flushed and kept.
func TestPutOutage(t *testing.T) {
	for _, s := range shapes() {
		for _, keep := range keeps {
			for ops := 0; ; ops++ {
				d := disksOf(t, s)
				d.fill(t)
				chunks, i := chunksOf(s, 999), s.StripeAt(2)
				d.p.Limit(ops)
				if !power.Run(func() { d.a.Put(2, chunks) }) {
					if ops != 2*s.Members {
						t.Errorf("Put is %d operations of %d members", ops, s.Members)
					}
					break
				}
				d.p.Limit(-1)
				for _, x := range d.l {
					x.Cycle(keep)
				}
				d.open(t)
				fresh := 0
				for m, b := range spread(s, 2, chunks) {
					got := d.raw(t, m, i)
					if bytes.Equal(got, b) {
						fresh++
					} else if !bytes.Equal(got, spread(s, 2, d.kept[2])[m]) {
						t.Errorf("member %d has %v, which nobody wrote", m, got)
					}
				}
				// All are written before one is flushed. Of what waits on a member, the stripe is the first sector.
				written, flushed := min(ops, s.Members), max(ops-s.Members, 0)
				if keep&1 == 1 && fresh != written || keep&1 == 0 && fresh != flushed {
					t.Errorf("%d operations, %x kept: %d members have the stripe", ops, keep, fresh)
				}
				d.mustReadOthers(t, 2)
				d.put(t, 2, 7)
				d.mustRead(t)
				d.l[ops%s.Members].Fail()
				d.mustRead(t)
			}
		}
	}
}

// mustReadOthers checks all stripes but one.
func (d *disks) mustReadOthers(t *testing.T, stripe int) {
	t.Helper()
	for other := range d.s.All() {
		if other != stripe {
			d.mustReadStripe(t, other)
		}
	}
}

// P3.1, P11.1, P11.2: the same with a member that is gone before Put, or fails at any operation of it; the root has it as Stale or, if the power went before that, still -1.
func TestPutOutageOneGone(t *testing.T) {
	for _, s := range shapes()[:3] {
		for m := range s.Members {
			for fail := range 2*s.Members + 1 {
				for ops := 0; ; ops++ {
					d := disksOf(t, s)
					d.fill(t)
					if fail == 2*s.Members {
						d.a.Lose(m)
					}
					d.l[m].FailAt(d.p.Used() + fail)
					d.p.Limit(ops)
					if !power.Run(func() { d.a.Put(2, chunksOf(s, 999)) }) {
						break
					}
					d.p.Limit(-1)
					for _, x := range d.l {
						x.Cycle(keeps[(ops+fail)%len(keeps)])
					}
					d.open(t)
					if x := d.a.Stale(); x != -1 && x != m || d.n.Root() != rootOf(s, x) {
						t.Errorf("the root is %+v, and %d failed", d.n.Root(), m)
					}
					d.mustReadOthers(t, 2)
					d.put(t, 2, 7)
					d.mustRead(t)
				}
			}
		}
	}
}

// P3.1, P11.4: the power goes at every single operation of a rebuild: until its last one the member is not current, all reads as it was put, and the rebuild can be done again.
func TestRebuildOutage(t *testing.T) {
	s := shapes()[1]
	for m := range s.Members {
		for ops := 0; ; ops++ {
			d := disksOf(t, s)
			d.fill(t)
			d.a.Lose(m)
			d.a.Replace(m)
			d.p.Limit(ops)
			gone := power.Run(func() {
				d.mendAll(t)
				if err := d.a.Finish(d.label(m)); err != api.OK {
					t.Errorf("Finish = %d", err)
				}
			})
			d.p.Limit(-1)
			if !gone {
				break
			}
			for _, x := range d.l {
				x.Cycle(keeps[ops%len(keeps)])
			}
			d.open(t)
			if d.n.Root() != rootOf(s, m) {
				t.Errorf("the root is %+v, and %d is not current", d.n.Root(), m)
			}
			d.mustRead(t)
			d.mendAll(t)
			if err := d.a.Finish(d.label(m)); err != api.OK {
				t.Errorf("Finish = %d", err)
			}
			d.l[(m+1)%s.Members].Fail()
			d.mustRead(t)
		}
	}
}

// P1, R5: disks that have too few sectors, or sectors of another size, are lost as others are, and nothing panics.
func TestDisksThatDoNotFit(t *testing.T) {
	s := shapes()[1]
	for _, bad := range []struct{ sectors, size int }{{0, s.Block}, {1, s.Block}, {s.Sectors() - 1, s.Block}, {s.Sectors(), s.Block - 1}, {s.Sectors(), s.Block + 1}, {s.Sectors(), 0}} {
		for m := range s.Members {
			d := disksOf(t, s)
			d.l[m] = disk.New(d.p, bad.sectors, bad.size)
			d.open(t)
			if err := d.a.Put(s.All()-1, chunksOf(s, 1)); err != api.OK || d.a.Stale() != m {
				t.Errorf("Put = %d, Stale %d", err, d.a.Stale())
			}
			d.put(t, 0, 2)
			d.mustReadStripe(t, 0)
			if err := d.a.Mend(s.All() - 1); err != api.ErrDead {
				t.Errorf("Mend = %d", err)
			}
			if err := d.a.Finish(d.label(m)); err != api.OK && err != api.ErrDead {
				t.Errorf("Finish = %d", err)
			}
		}
	}
}

// step does something by chance: the member that is not current, or is going to fail, is bad (-1: none); next is the stripe that is mended next. It returns both as they are afterwards.
func (d *disks) step(t *testing.T, r *rand.Rand, bad, next int) (int, int) {
	t.Helper()
	stale := d.a.Stale()
	switch r.Intn(9) {
	case 0, 1:
		d.put(t, r.Intn(d.s.All()), r.Int())
	case 2:
		d.same(t, 1+r.Intn(d.s.StripeAt(0)-1), r.Int())
	case 3:
		if err := d.a.Flush(); err != api.OK {
			t.Errorf("Flush = %d", err)
		}
	case 4:
		if bad < 0 {
			bad = r.Intn(d.s.Members)
			d.l[bad].FailAt(d.p.Used() + r.Intn(30))
		}
	case 5:
		if bad < 0 {
			bad = r.Intn(d.s.Members)
			if err := d.a.Lose(bad); err != api.OK {
				t.Errorf("Lose = %d", err)
			}
		}
	case 6:
		if stale >= 0 && r.Intn(5) == 0 {
			next = 0
			if err := d.a.Replace(stale); err != api.OK {
				t.Errorf("Replace = %d", err)
			}
		}
	default:
		return d.mend(t, bad, next)
	}
	return bad, next
}

// mend mends the next stripe, or finishes behind the last one.
func (d *disks) mend(t *testing.T, bad, next int) (int, int) {
	t.Helper()
	stale := d.a.Stale()
	if stale < 0 {
		if err := d.a.Mend(next); err != api.ErrState {
			t.Errorf("Mend = %d", err)
		}
		return bad, 0
	}
	dead := d.l[stale].Dead()
	err := api.OK
	if next < d.s.All() {
		err = d.a.Mend(next)
	} else {
		err = d.a.Finish(d.label(stale))
	}
	if err == api.ErrDead && (dead || d.l[stale].Dead()) {
		return bad, 0
	}
	if err != api.OK || dead {
		t.Errorf("Mend or Finish = %d, dead %t", err, dead)
	}
	if next < d.s.All() {
		return bad, next + 1
	}
	if d.a.Stale() != -1 {
		t.Errorf("Stale %d after Finish", d.a.Stale())
	}
	// It may be alive with a FailAt that has not come yet.
	d.l[stale].FailAt(-1)
	return -1, 0
}

// P11.1 to P11.4: long runs by chance, in which one member at a time fails, is replaced and rebuilt, read as they were put after each step.
func TestRandom(t *testing.T) {
	r := rand.New(rand.NewSource(11))
	rebuilt := 0
	for round := range 60 {
		s := shapes()[round%3]
		d := disksOf(t, s)
		bad, next := -1, 0
		for range 250 {
			before := d.a.Stale()
			bad, next = d.step(t, r, bad, next)
			if d.a.Broken() || d.a.Stale() != -1 && d.a.Stale() != bad || d.n.Root() != rootOf(s, d.a.Stale()) {
				t.Fatalf("Broken %t, the root is %+v, %d may be lost", d.a.Broken(), d.n.Root(), bad)
			}
			if before >= 0 && d.a.Stale() < 0 {
				rebuilt++
			}
			d.mustReadStripe(t, r.Intn(s.All()))
		}
		d.mustRead(t)
	}
	if rebuilt < 20 {
		t.Errorf("only %d members were rebuilt", rebuilt)
	}
}
