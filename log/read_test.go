package log

import (
	"bytes"
	"math"
	"testing"

	"drystone/api"
	"drystone/nv"
	"drystone/power"
)

// mustFail checks that Read returns an error and no bytes.
func (r *rig) mustFail(t *testing.T, lba int, want api.Errno) {
	t.Helper()
	if b, err := r.Read(lba); b != nil || err != want {
		t.Errorf("Read(%d) = %v, %d, not %d", lba, b, err, want)
	}
}

// TestReadArg: P15.4, R2, R3: ErrArg for a block that there is not, also if two members are lost, and if such a block was staged.
func TestReadArg(t *testing.T) {
	for _, s := range shapes() {
		r := made(t, s)
		blocks := []int{-1, -2, s.Logical, s.Logical + 1, 1 << 20, 1 << 32, -1 << 32, math.MinInt, math.MaxInt}
		for range 3 {
			for _, lba := range blocks {
				r.mustFail(t, lba, api.ErrArg)
			}
			r.n.Append(nv.Write, -1, []byte{1})
			r.n.Append(nv.Write, s.Logical, []byte{1})
			r.Lose(0)
			r.Lose(1)
		}
		r.mustFail(t, 0, api.ErrDegraded)
		r.mustFail(t, s.Logical-1, api.ErrDegraded)
	}
}

// TestReadNowhere: P15.4: a block that is neither staged nor mapped is zeros; no member is asked for it.
func TestReadNowhere(t *testing.T) {
	for _, s := range shapes() {
		r := made(t, s)
		used := r.p.Used()
		for _, lba := range []int{0, s.Logical / 2, s.Logical - 1} {
			r.mustRead(t, lba, nil)
		}
		if r.p.Used() != used {
			t.Errorf("%d operations", r.p.Used()-used)
		}
	}
}

// TestReadStaged: P15.4: of a block that is staged the data of its last record, padded with zeros; zeros for a Trim, whatever data that has; no member is asked for it, and what is mapped does not matter.
func TestReadStaged(t *testing.T) {
	for _, mapped := range []bool{false, true} {
		r := made(t, wide())
		if mapped {
			for i := range 4 {
				r.mustAppend(t, nv.Write, i, r.full(0xDD))
			}
			must(t, "Drain", r.Drain(), api.OK)
		}
		for _, c := range []struct {
			k          nv.Kind
			lba        int
			data, want []byte
		}{
			{nv.Write, 0, []byte("some"), []byte("some")},
			{nv.Move, 1, []byte("moved"), []byte("moved")},
			{nv.Trim, 2, nil, nil},
			{nv.Write, 1, r.full(9), r.full(9)},
			{nv.Trim, 0, nil, nil},
			{nv.Write, 2, nil, nil},
			{nv.Write, 0, []byte{1}, []byte{1}},
			{nv.Trim, 1, []byte("data"), nil},
			{nv.Move, 0, make([]byte, 39), nil},
			{nv.Write, 3, append(make([]byte, 39), 1), append(make([]byte, 39), 1)},
			{nv.None, 2, []byte{8}, []byte{8}},
		} {
			r.mustAppend(t, c.k, c.lba, c.data)
			used := r.p.Used()
			r.mustRead(t, c.lba, c.want)
			if r.p.Used() != used {
				t.Errorf("%d operations", r.p.Used()-used)
			}
		}
		r.mustRead(t, 0, nil)
		r.mustRead(t, 1, nil)
	}
}

// TestReadMapped: P15.4: a block that is mapped is the chunk of its place, in any slot of any stripe, and no longer what was staged earlier.
func TestReadMapped(t *testing.T) {
	for _, s := range shapes()[:4] {
		r := made(t, s)
		for i := range min(s.Logical, 3*s.Slots()*s.Stripes/2) {
			if r.n.Len() == s.Nv {
				must(t, "Drain", r.Drain(), api.OK)
			}
			r.mustAppend(t, nv.Write, i, []byte{byte(i), byte(i >> 8), 77})
		}
		must(t, "Drain", r.Drain(), api.OK)
		for i := range s.Logical {
			var want []byte
			if i < 3*s.Slots()*s.Stripes/2 {
				want = []byte{byte(i), byte(i >> 8), 77}
			}
			r.mustRead(t, i, want)
		}
	}
	r := made(t, wide())
	r.mustAppend(t, nv.Write, 19, []byte{1})
	must(t, "Drain", r.Drain(), api.OK)
	r.mustRead(t, 19, []byte{1})
	r.mustAppend(t, nv.Trim, 19, nil)
	must(t, "Drain", r.Drain(), api.OK)
	r.mustRead(t, 19, nil)
	r.mustAppend(t, nv.Move, 19, []byte{2})
	must(t, "Drain", r.Drain(), api.OK)
	r.mustRead(t, 19, []byte{2})
}

// TestReadOneMember: P15.4: with any one member gone, before the reading or at it, all is read as before.
func TestReadOneMember(t *testing.T) {
	for m := range 5 {
		for _, told := range []bool{false, true} {
			r := halfFull(t)
			r.disks[m].Fail()
			if told {
				r.Lose(m)
			}
			for lba, want := range []byte{1, 101, 0, 103, 5, 6, 7, 107, 9, 0, 0, 0, 112, 0} {
				r.mustRead(t, lba, []byte{want})
			}
		}
	}
}

// TestReadTwoMembers: P15.4: ErrDegraded with two members gone: from the call on by which the second one is lost, whether the block is staged, mapped or neither.
func TestReadTwoMembers(t *testing.T) {
	for one := range 5 {
		for other := range 5 {
			if one == other {
				continue
			}
			r := halfFull(t)
			r.disks[one].Fail()
			r.Lose(one)
			r.disks[other].Fail()
			r.mustRead(t, 12, []byte{112})
			r.mustRead(t, 13, nil)
			r.mustRead(t, 2, nil)
			// Blocks 3 to 5 lie in stripe 1; not each of them needs all members, but two of them do.
			for _, lba := range []int{4, 5, 0, 6, 8} {
				r.Read(lba)
			}
			if !r.Broken() {
				t.Errorf("without %d and %d nothing was lost by reading", one, other)
			}
			for lba := range 20 {
				r.mustFail(t, lba, api.ErrDegraded)
			}
			r.mustFail(t, 20, api.ErrArg)
		}
	}
	// Of stripe 0 block 0 lies on member 2: it is the reading by which that is lost, too.
	r := halfFull(t)
	r.Lose(0)
	r.disks[2].Fail()
	r.mustFail(t, 0, api.ErrDegraded)
	// Each later one of a staged block is told as well.
	r.mustFail(t, 12, api.ErrDegraded)
}

// TestReadNothing: R6, P15.4: reading changes nothing, and the power that goes at it neither.
func TestReadNothing(t *testing.T) {
	r := halfFull(t)
	before := r.state()
	for lba := -1; lba < 21; lba++ {
		r.Read(lba)
	}
	r.mustStay(t, before)
	r.p.Limit(0)
	if !power.Run(func() { r.Read(5) }) {
		t.Error("the power did not go")
	}
	r.mustStay(t, before)
	r.p.Limit(1)
	r.mustRead(t, 5, []byte{6})
}

// TestReadLongData: P1: data that is longer than a block is no reason to panic, staged or not; nothing of it is lost.
func TestReadLongData(t *testing.T) {
	r := made(t, wide())
	long := bytes.Repeat([]byte{3}, 100)
	r.mustAppend(t, nv.Write, 1, long)
	r.mustRead(t, 1, long)
}
