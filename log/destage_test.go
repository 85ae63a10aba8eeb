package log

import (
	"bytes"
	"math"
	"reflect"
	"testing"

	"drystone/api"
	"drystone/note"
	"drystone/nv"
	"drystone/power"
	"drystone/table"
)

// TestDestageNothing: P15.3: nothing happens if no record is staged: not even where there is no room, or two members are lost.
func TestDestageNothing(t *testing.T) {
	r := made(t, small())
	before, used := r.state(), r.p.Used()
	must(t, "Destage", r.Destage(), api.OK)
	must(t, "Drain", r.Drain(), api.OK)
	r.mustStay(t, before)
	r.Apply(r.noteWith(1, -1))
	r.use(0)
	r.Lose(0)
	r.Lose(1)
	before, used = r.state(), r.p.Used()
	must(t, "Destage", r.Destage(), api.OK)
	must(t, "Drain", r.Drain(), api.OK)
	r.mustStay(t, before)
	if r.p.Used() != used {
		t.Errorf("%d operations", r.p.Used()-used)
	}
}

// TestDestageFewer: P15.3: fewer records than slots: the others are None and zeros; the data is padded with zeros.
func TestDestageFewer(t *testing.T) {
	r := made(t, wide())
	r.mustAppend(t, nv.Write, 5, []byte("some"))
	r.mustAppend(t, nv.Move, 0, r.full(0xFF))
	must(t, "Destage", r.Destage(), api.OK)
	r.mustStripe(t, 0, r.noteWith(1, -1, write(5), move(0)), []byte("some"), r.full(0xFF))
	if r.n.Len() != 0 || r.n.Root() != (nv.Root{Shape: r.s, Durable: 1, Stale: -1}) {
		t.Errorf("%d records are left, the root is %+v", r.n.Len(), r.n.Root())
	}
	r.mustMapped(t, map[int]int{5: 0, 0: 1})
	r.mustLive(t, 2)
	r.mustBe(t, 0, 1)
	// What a stripe does not use is zeros, whatever the members had there.
	for m := range r.disks {
		r.disks[m].Write(r.s.StripeAt(1), r.full(0xEE))
	}
	r.mustAppend(t, nv.Trim, 5, nil)
	must(t, "Destage", r.Destage(), api.OK)
	r.mustStripe(t, 1, r.noteWith(2, -1, trim(5)))
	r.mustMapped(t, map[int]int{0: 1})
	r.mustLive(t, 1)
}

// TestDestageMany: P15.3: as many records as slots fill a stripe; of more the first ones go, in their order, and the others stay.
func TestDestageMany(t *testing.T) {
	r := made(t, wide())
	for i := range 3 {
		r.mustAppend(t, nv.Write, 10+i, []byte{byte(i)})
	}
	must(t, "Destage", r.Destage(), api.OK)
	r.mustStripe(t, 0, r.noteWith(1, -1, write(10), write(11), write(12)), []byte{0}, []byte{1}, []byte{2})
	for i := range 5 {
		r.mustAppend(t, nv.Write, 9-i, []byte{byte(9 - i)})
	}
	must(t, "Destage", r.Destage(), api.OK)
	r.mustStripe(t, 1, r.noteWith(2, -1, write(9), write(8), write(7)), []byte{9}, []byte{8}, []byte{7})
	r.mustLeft(t, 7, 8)
	r.mustMapped(t, map[int]int{10: 0, 11: 1, 12: 2, 9: 3, 8: 4, 7: 5})
	must(t, "Destage", r.Destage(), api.OK)
	r.mustStripe(t, 2, r.noteWith(3, -1, write(6), write(5)), []byte{6}, []byte{5})
	r.mustLeft(t)
	r.mustMapped(t, map[int]int{10: 0, 11: 1, 12: 2, 9: 3, 8: 4, 7: 5, 6: 6, 5: 7})
	if got := r.n.Root().Durable; got != 3 {
		t.Errorf("Durable = %d", got)
	}
}

// TestDestageSameBlock: P15.3: of several records of a block the last one alone goes, when its turn comes; what is left of a block is newer than what went.
func TestDestageSameBlock(t *testing.T) {
	r := made(t, wide())
	for i, lba := range []int{4, 6, 6, 4, 8, 6, 9, 1, 1} {
		r.mustAppend(t, nv.Write, lba, []byte{byte(i + 1)})
	}
	// Its view is 4, 8, 6, 9, 1, by the records 4, 5, 6, 7 and 9.
	must(t, "Destage", r.Destage(), api.OK)
	r.mustStripe(t, 0, r.noteWith(1, -1, write(4), write(8), write(6)), []byte{4}, []byte{5}, []byte{6})
	r.mustLeft(t, 7, 8, 9)
	must(t, "Destage", r.Destage(), api.OK)
	r.mustStripe(t, 1, r.noteWith(2, -1, write(9), write(1)), []byte{7}, []byte{9})
	r.mustLeft(t)

	r = made(t, small())
	r.mustAppend(t, nv.Write, 0, []byte{1})
	r.mustAppend(t, nv.Trim, 0, nil)
	must(t, "Destage", r.Destage(), api.OK)
	r.mustStripe(t, 0, r.noteWith(1, -1, trim(0)))
	r.mustLeft(t)
	r.mustMapped(t, map[int]int{})
	r.mustLive(t, 0)

	r = made(t, wide())
	for i, lba := range []int{1, 2, 3, 4, 1, 2} {
		r.mustAppend(t, nv.Write, lba, []byte{byte(i + 1)})
	}
	must(t, "Destage", r.Destage(), api.OK)
	r.mustStripe(t, 0, r.noteWith(1, -1, write(3), write(4), write(1)), []byte{3}, []byte{4}, []byte{5})
	r.mustLeft(t, 6)
	r.mustMapped(t, map[int]int{3: 0, 4: 1, 1: 2})
	r.mustRead(t, 2, []byte{6})
}

// TestDestageKinds: P15.3: the slots have the records' kinds, blocks and data, whatever these are: data of a Trim, a record that is None, blocks that there are not.
func TestDestageKinds(t *testing.T) {
	r := made(t, wide())
	r.mustAppend(t, nv.Trim, 2, []byte{7})
	r.mustAppend(t, nv.None, 0, []byte{8})
	r.mustAppend(t, nv.Write, 20, []byte{9})
	must(t, "Destage", r.Destage(), api.OK)
	r.mustStripe(t, 0, r.noteWith(1, -1, trim(2), none(), write(20)), []byte{7}, []byte{8}, []byte{9})
	r.mustLeft(t)
	r.mustMapped(t, map[int]int{})
	r.mustLive(t, 0)
	r.mustBe(t, 0, 1)
}

// TestDestageSeq: P15.3: the number in the note is the one after the root's Durable, whatever that is; nothing else of the root changes.
func TestDestageSeq(t *testing.T) {
	for _, durable := range []uint64{0, 1, 258, 1 << 40, math.MaxUint64 - 1} {
		r := made(t, wide())
		root := nv.Root{Shape: r.s, Gen: 12, Durable: durable, Stale: 2}
		r.n.Set(root)
		r.mustAppend(t, nv.Write, 1, []byte{1})
		must(t, "Destage", r.Destage(), api.OK)
		r.mustStripe(t, 0, r.noteWith(durable+1, -1, write(1)), []byte{1})
		root.Durable++
		if got := r.n.Root(); got != root {
			t.Errorf("the root is %+v, not %+v", got, root)
		}
	}
}

// TestDestageLast: P15.3: at a last stripe the note tells of the first free segment, which comes next.
func TestDestageLast(t *testing.T) {
	r := made(t, wide())
	r.Table.Set(1, table.Segment{State: table.Sealed, Born: 1})
	r.Table.Open(2)
	for range 3 {
		r.Apply(r.noteWith(1, -1))
	}
	r.mustAppend(t, nv.Write, 3, []byte{3})
	must(t, "Destage", r.Destage(), api.OK)
	r.mustStripe(t, 3, r.noteWith(1, 3, write(3)), []byte{3})
	r.mustBe(t, 3, 0)
	want := []table.Segment{{State: table.Sealed, Live: 1, Born: 1}, {State: table.Sealed, Born: 1}, {State: table.Open}, {State: table.Open}, {}, {}}
	if got := r.Table.All(); !reflect.DeepEqual(got, want) {
		t.Errorf("the segments are %v", got)
	}
	r.mustAppend(t, nv.Write, 4, []byte{4})
	must(t, "Destage", r.Destage(), api.OK)
	r.mustStripe(t, 12, r.noteWith(2, -1, write(4)), []byte{4})
	r.mustMapped(t, map[int]int{3: 9, 4: 36})
}

// TestDestageNoSpace: P15.3: ErrNoSpace at a last stripe if no segment is free, and nothing changes or is written; ahead of ErrDegraded, which comes later in the text. At an earlier stripe none has to be free.
func TestDestageNoSpace(t *testing.T) {
	r := made(t, small())
	r.use(0)
	r.mustAppend(t, nv.Write, 0, []byte{1})
	r.mustAppend(t, nv.Write, 0, []byte{2})
	must(t, "Destage", r.Destage(), api.OK)
	r.mustStripe(t, 0, r.noteWith(1, -1, write(0)), []byte{2})
	for range 2 {
		r.mustAppend(t, nv.Write, 0, []byte{3})
		before, used := r.state(), r.p.Used()
		must(t, "Destage", r.Destage(), api.ErrNoSpace)
		must(t, "Drain", r.Drain(), api.ErrNoSpace)
		r.mustStay(t, before)
		if r.p.Used() != used {
			t.Errorf("%d operations", r.p.Used()-used)
		}
	}
	r.Lose(0)
	r.Lose(1)
	must(t, "Destage", r.Destage(), api.ErrNoSpace)
	r.Table.Clear(2)
	must(t, "Destage", r.Destage(), api.ErrDegraded)
}

// TestDestageAll: P15.3: all stripes but the last one of all can be written, and each of them is as it was written, segment after segment.
func TestDestageAll(t *testing.T) {
	for _, s := range shapes()[:4] {
		r := made(t, s)
		var datas [][]byte
		for i := range s.All() - 1 {
			if got := r.Usable(); got != s.All()-1-i {
				t.Errorf("Usable = %d behind %d stripes", got, i)
			}
			datas = append(datas, []byte{byte(i), byte(i >> 8), 5})
			r.mustAppend(t, nv.Write, i%s.Logical, datas[i])
			must(t, "Destage", r.Destage(), api.OK)
		}
		r.mustAppend(t, nv.Write, 0, nil)
		must(t, "Destage", r.Destage(), api.ErrNoSpace)
		for i, data := range datas {
			next := -1
			if (i+1)%s.Stripes == 0 {
				next = (i + 1) / s.Stripes
			}
			r.mustStripe(t, i, r.noteWith(uint64(i+1), next, write(i%s.Logical)), data)
		}
	}
}

// TestDestageOneMember: P15.3: a member that fails at any operation, or was lost before, is made up for by the others: it is not current, all else is as if it had not failed.
func TestDestageOneMember(t *testing.T) {
	for m := range wide().Members {
		for at := range 12 {
			r := made(t, wide())
			for i := range 4 {
				r.mustAppend(t, nv.Write, i, []byte{byte(i + 1)})
			}
			r.disks[m].FailAt(r.p.Used() + at)
			must(t, "Destage", r.Destage(), api.OK)
			if got := r.n.Root().Durable; got != 1 {
				t.Errorf("Durable = %d", got)
			}
			r.mustLeft(t, 4)
			r.mustMapped(t, map[int]int{0: 0, 1: 1, 2: 2})
			r.mustBe(t, 0, 1)
			r.disks[m].Fail()
			for i := range 4 {
				r.mustRead(t, i, []byte{byte(i + 1)})
			}
			must(t, "Drain", r.Drain(), api.OK)
			for i := range 4 {
				r.mustRead(t, i, []byte{byte(i + 1)})
			}
			if got := r.Stale(); got != m {
				t.Errorf("member %d is not current, not %d", got, m)
			}
		}
	}
}

// TestDestageTwoMembers: P15.3: ErrDegraded if two members fail, at any operations, or were lost before: no record is removed, and Durable, the map, the table, Segment and Index are as they were.
func TestDestageTwoMembers(t *testing.T) {
	for one := range 5 {
		for other := range 5 {
			if one == other {
				continue
			}
			for at := range 9 {
				r := halfFull(t)
				before := r.state()
				r.disks[one].Fail()
				// The other one fails at its Flush, if at no Write.
				r.disks[other].FailAt(r.p.Used() + min(at, 5+other))
				must(t, "Destage", r.Destage(), api.ErrDegraded)
				before.root.Stale = r.n.Root().Stale
				r.mustStay(t, before)
				if !r.Broken() || r.Stale() != one && r.Stale() != other {
					t.Errorf("%d is not current, broken %t", r.Stale(), r.Broken())
				}
				used := r.p.Used()
				must(t, "Destage", r.Destage(), api.ErrDegraded)
				must(t, "Drain", r.Drain(), api.ErrDegraded)
				r.mustStay(t, before)
				if r.p.Used() != used {
					t.Errorf("%d operations", r.p.Used()-used)
				}
			}
		}
	}
}

// halfFull returns a log to which some stripes were written, at a last stripe, with more records than a stripe has slots.
func halfFull(t *testing.T) *rig {
	t.Helper()
	r := made(t, wide())
	for i := range 9 {
		r.mustAppend(t, nv.Write, i, []byte{byte(i + 1)})
	}
	must(t, "Drain", r.Drain(), api.OK)
	for _, lba := range []int{3, 12, 3, 1, 7} {
		r.mustAppend(t, nv.Write, lba, []byte{byte(100 + lba)})
	}
	r.mustAppend(t, nv.Trim, 2, nil)
	return r
}

// TestDestageLongData: P1, R2, P15.3: data that is longer than a block is an error of Put, ErrArg, but ErrDegraded goes before it; nothing changes, and Drain ends.
func TestDestageLongData(t *testing.T) {
	r := made(t, wide())
	r.mustAppend(t, nv.Write, 1, make([]byte, 41))
	r.mustAppend(t, nv.Write, 2, []byte{1})
	before := r.state()
	must(t, "Destage", r.Destage(), api.ErrArg)
	must(t, "Drain", r.Drain(), api.ErrArg)
	r.mustStay(t, before)
	r.Lose(0)
	r.Lose(1)
	must(t, "Destage", r.Destage(), api.ErrDegraded)
	must(t, "Drain", r.Drain(), api.ErrDegraded)
}

// TestDestagePower: P15.3: if the power goes at any operation, nothing of it was told: the records, Durable, the map, the table, Segment and Index are as they were. The operations are a Write and a Flush of each member, and the Commit.
func TestDestagePower(t *testing.T) {
	for limit := range 11 {
		r := halfFull(t)
		before := r.state()
		r.p.Limit(limit)
		if !power.Run(func() { r.Destage() }) {
			t.Errorf("the power did not go at operation %d", limit)
		}
		r.mustStay(t, before)
		r.p.Limit(-1)
		r.mustRead(t, 3, []byte{103})
		must(t, "Destage", r.Destage(), api.OK)
		r.mustBe(t, 1, 0)
	}
	r := halfFull(t)
	r.p.Limit(11)
	if power.Run(func() { must(t, "Destage", r.Destage(), api.OK) }) {
		t.Error("the power went: there were more than 11 operations")
	}
	r.mustLeft(t, 14, 15)
	if got := r.n.Root().Durable; got != 4 {
		t.Errorf("Durable = %d", got)
	}
}

// TestDestageFlushed: P15.3: what is durable by the root was flushed: it stays when the power goes then, whatever is kept of what waits.
func TestDestageFlushed(t *testing.T) {
	r := halfFull(t)
	must(t, "Destage", r.Destage(), api.OK)
	for _, d := range r.disks {
		d.Cycle(0)
	}
	r.mustStripe(t, 3, r.noteWith(4, 1, write(12), write(3), write(1)), []byte{112}, []byte{103}, []byte{101})
}

// TestDrain: P15.3: Drain destages until nothing is staged: one stripe, several, or more than a segment has.
func TestDrain(t *testing.T) {
	for many := range 13 {
		r := made(t, wide())
		for i := range many {
			r.mustAppend(t, nv.Write, i, []byte{byte(i + 1)})
		}
		must(t, "Drain", r.Drain(), api.OK)
		r.mustLeft(t)
		stripes := (many + 2) / 3
		r.mustBe(t, stripes/4, stripes%4)
		if got := r.n.Root().Durable; got != uint64(stripes) {
			t.Errorf("Durable = %d behind %d records", got, many)
		}
		for i := range 20 {
			var want []byte
			if i < many {
				want = []byte{byte(i + 1)}
			}
			r.mustRead(t, i, want)
		}
		must(t, "Drain", r.Drain(), api.OK)
		r.mustBe(t, stripes/4, stripes%4)
	}
}

// TestDrainErrors: P15.3: ErrNoSpace and ErrDegraded on the way: the stripes ahead of it stay, the records behind them too.
func TestDrainErrors(t *testing.T) {
	for free := range 3 {
		for _, broken := range []bool{false, true} {
			r := made(t, small())
			r.n.Set(nv.Root{Shape: wide(), Stale: -1})
			r.use(free)
			for i := range 12 {
				// Of each kind's note something can be told, though there is one block alone.
				r.mustAppend(t, nv.Write, 5+i, []byte{byte(i)})
			}
			want, can := api.ErrNoSpace, 1+2*free
			if broken {
				// Each stripe is three Writes, three Flushes and the Commit: the two fail at the Writes of the second one.
				want, can = api.ErrDegraded, min(can, 1)
				r.disks[0].FailAt(r.p.Used() + 7)
				r.disks[2].FailAt(r.p.Used() + 7)
			}
			if broken && free == 0 {
				want = api.ErrNoSpace
			}
			must(t, "Drain", r.Drain(), want)
			if got := r.n.Len(); got != 12-can || r.n.Root().Durable != uint64(can) {
				t.Errorf("%d records are left with %d segments free, Durable is %d", got, free, r.n.Root().Durable)
			}
			r.mustStripe0(t, note.Note{Seq: 1, Next: -1, Slots: []note.Entry{write(5)}})
		}
	}
}

// mustStripe0 checks the note of stripe 0 by what its member has, which may have failed since.
func (r *rig) mustStripe0(t *testing.T, want note.Note) {
	t.Helper()
	b, err := r.disks[1].Read(r.s.StripeAt(0))
	if err != api.OK || !bytes.Equal(b, note.Encode(want, r.s.Block)) {
		t.Errorf("the note is %v, %d", b, err)
	}
}

// mustLeft checks which records are left, by their numbers.
func (r *rig) mustLeft(t *testing.T, want ...uint64) {
	t.Helper()
	var got []uint64
	for _, x := range r.n.Records() {
		got = append(got, x.Seq)
	}
	if !reflect.DeepEqual(got, want) {
		t.Errorf("the records %v are left, not %v", got, want)
	}
}
