package stage

import (
	"bytes"
	"math"
	"slices"
	"testing"

	"drystone/nv"
)

// greatest is the greatest number of a record.
const greatest = math.MaxUint64

// rec returns a record of a block, with bytes that tell its number.
func rec(seq uint64, lba int) nv.Record {
	return nv.Record{Seq: seq, Kind: nv.Write, Lba: lba, Data: []byte{byte(seq), 99, byte(lba)}}
}

// recs returns records of these blocks, which are numbered from 1.
func recs(lbas ...int) []nv.Record {
	var l []nv.Record
	for i, lba := range lbas {
		l = append(l, rec(uint64(i+1), lba))
	}
	return l
}

// pick returns those of the records that stand at these indexes.
func pick(l []nv.Record, at ...int) []nv.Record {
	var picked []nv.Record
	for _, i := range at {
		picked = append(picked, l[i])
	}
	return picked
}

// alike reports whether two records are the same; whether no bytes are nil or empty does not matter.
func alike(a, b nv.Record) bool {
	return a.Seq == b.Seq && a.Kind == b.Kind && a.Lba == b.Lba && bytes.Equal(a.Data, b.Data)
}

// same reports whether two lists of records are the same.
func same(a, b []nv.Record) bool {
	return slices.EqualFunc(a, b, alike)
}

// mustView checks what View returns.
func mustView(t *testing.T, l, want []nv.Record) {
	t.Helper()
	if got := View(l); !same(got, want) {
		t.Errorf("View(%v) = %v, not %v", l, got, want)
	}
}

// mustFind checks that Find returns a record.
func mustFind(t *testing.T, l []nv.Record, lba int, want nv.Record) {
	t.Helper()
	if got, ok := Find(l, lba); !ok || !alike(got, want) {
		t.Errorf("Find(%v, %d) = %v, %t, not %v", l, lba, got, ok, want)
	}
}

// mustMiss checks that Find returns false and a zero record.
func mustMiss(t *testing.T, l []nv.Record, lba int) {
	t.Helper()
	if got, ok := Find(l, lba); ok || !alike(got, nv.Record{}) {
		t.Errorf("Find(%v, %d) = %v, %t, not false", l, lba, got, ok)
	}
}

// mustBatch checks what Batch returns.
func mustBatch(t *testing.T, l []nv.Record, most int, want []nv.Record, upTo uint64) {
	t.Helper()
	if got, n := Batch(l, most); !same(got, want) || n != upTo {
		t.Errorf("Batch(%v, %d) = %v, %d, not %v, %d", l, most, got, n, want, upTo)
	}
}

// TestExample: the chapter's example.
func TestExample(t *testing.T) {
	l := recs(1, 2, 1)
	mustView(t, l, l[1:])
}

// TestViewOrder: P14.1: of each block the last record alone, in the order of the records that are left: not in that of the blocks, nor in that in which these first stood.
func TestViewOrder(t *testing.T) {
	for _, c := range []struct{ lbas, want []int }{
		{nil, nil},
		{[]int{0}, []int{0}},
		{[]int{7}, []int{0}},
		{[]int{-7}, []int{0}},
		{[]int{1, 2, 3}, []int{0, 1, 2}},
		{[]int{3, 2, 1}, []int{0, 1, 2}},
		{[]int{2, 0, 3, 1}, []int{0, 1, 2, 3}},
		{[]int{5, 5}, []int{1}},
		{[]int{5, 5, 5, 5}, []int{3}},
		{[]int{0, 0, 1}, []int{1, 2}},
		{[]int{1, 0, 0}, []int{0, 2}},
		{[]int{2, 4, 4, 4, 1}, []int{0, 3, 4}},
		{[]int{4, 4, 1, 1, 3, 3}, []int{1, 3, 5}},
		{[]int{1, 2, 1}, []int{1, 2}},
		{[]int{1, 2, 1, 2}, []int{2, 3}},
		{[]int{1, 2, 2, 1}, []int{2, 3}},
		{[]int{0, 1, 2, 3, 0}, []int{1, 2, 3, 4}},
		{[]int{9, 1, 9, 2, 9, 3}, []int{1, 3, 4, 5}},
		{[]int{3, 1, 2, 3, 2, 5, 1, 4}, []int{3, 4, 5, 6, 7}},
		{[]int{-1, 1, 0, -1}, []int{1, 2, 3}},
	} {
		l := recs(c.lbas...)
		mustView(t, l, pick(l, c.want...))
	}
}

// TestNoRecords: P14.1, R4: of no records, nil or empty, the view is empty, there is no record to find, and no batch.
func TestNoRecords(t *testing.T) {
	for _, l := range [][]nv.Record{nil, {}, recs(1, 2)[:0]} {
		mustView(t, l, nil)
		for _, n := range []int{math.MinInt, -1, 0, 1, 2, math.MaxInt} {
			mustMiss(t, l, n)
			mustBatch(t, l, n, nil, 0)
		}
	}
}

// TestViewKeepsRecords: P14.1: a record is in the view as it was: of every kind and of other numbers, of any block, with any number and any bytes or none.
func TestViewKeepsRecords(t *testing.T) {
	kinds := []nv.Kind{nv.None, nv.Write, nv.Trim, nv.Move, nv.Move + 1, -1, 256, math.MinInt, math.MaxInt}
	datas := [][]byte{nil, {}, {0}, {0, 0, 0}, {1, 2, 3}, bytes.Repeat([]byte{0xA5}, 512), make([]byte, 70000)}
	for _, seq := range []uint64{0, 1, 1<<32 + 1, 1 << 63, greatest} {
		for _, lba := range extremes() {
			for _, k := range kinds {
				for _, data := range datas {
					r := nv.Record{Seq: seq, Kind: k, Lba: lba, Data: data}
					l := []nv.Record{rec(5, lba), rec(6, 77), r}
					mustView(t, l[2:], l[2:])
					mustView(t, l, l[1:])
					mustFind(t, l, lba, r)
					mustBatch(t, l, 2, l[1:], seq)
				}
			}
		}
	}
	mustView(t, make([]nv.Record, 3), make([]nv.Record, 1))
}

// extremes are numbers of blocks that differ in some of their bits only.
func extremes() []int {
	return []int{0, 1, -1, 5, 5 + 1<<8, 5 + 1<<16, 5 + 1<<20, 5 + 1<<32, -5, math.MinInt, math.MinInt + 5, math.MaxInt - 1, math.MaxInt}
}

// TestBlocksApart: P14.1: blocks are the same only if their whole numbers are.
func TestBlocksApart(t *testing.T) {
	l := recs(extremes()...)
	mustView(t, l, l)
	for i, lba := range extremes() {
		mustFind(t, l, lba, l[i])
		mustMiss(t, slices.Delete(recs(extremes()...), i, i+1), lba)
	}
	mustBatch(t, l, len(l), l, uint64(len(l)))
}

// TestLastByOrder: P14.1: which record is the last one is told by where it stands, not by its number, its kind or its bytes: numbers may descend, or be the same.
func TestLastByOrder(t *testing.T) {
	l := []nv.Record{
		{Seq: 9, Kind: nv.Move, Lba: 1, Data: []byte{9, 9}},
		{Seq: 8, Kind: nv.Write, Lba: 2, Data: []byte{8}},
		{Seq: 3, Kind: nv.Trim, Lba: 1},
		{Seq: 3, Kind: nv.None, Lba: 3},
		{Seq: 3, Kind: nv.Write, Lba: 1, Data: []byte{0}},
		{Seq: 0, Kind: nv.None, Lba: 2},
	}
	mustView(t, l, l[3:])
	mustFind(t, l, 1, l[4])
	mustFind(t, l, 2, l[5])
	mustFind(t, l, 3, l[3])
	mustBatch(t, l, 1, l[3:4], 3)
	mustBatch(t, l, 2, l[3:5], 3)
	mustBatch(t, l, 3, l[3:], 0)
}

// TestViewOfView: P14.1: a view's view is that view.
func TestViewOfView(t *testing.T) {
	for _, l := range [][]nv.Record{nil, recs(4), recs(1, 2, 1), recs(3, 1, 2, 3, 2, 5, 1, 4), recs(2, 2, 2)} {
		mustView(t, View(l), View(l))
	}
	l := recs(3, 1, 2, 3)
	mustView(t, View(View(l)), l[1:])
}

// TestFind: P14.1: the one record of a block, or the last one of several, wherever it stands; false and a zero record if there is none.
func TestFind(t *testing.T) {
	l := recs(4, 6, 6, 4, 8, 6, 9, 1, 1)
	for _, c := range []struct{ lba, want int }{{8, 4}, {9, 6}, {4, 3}, {6, 5}, {1, 8}} {
		mustFind(t, l, c.lba, l[c.want])
	}
	for _, lba := range []int{0, -1, -4, 2, 3, 5, 7, 10, 1 << 32, 1<<32 + 4, math.MinInt, math.MaxInt} {
		mustMiss(t, l, lba)
	}
	mustFind(t, l[:1], 4, l[0])
	mustMiss(t, l[:1], 0)
	mustMiss(t, l[:1], 6)
	zero := recs(0, 3)
	mustFind(t, zero, 0, zero[0])
	mustMiss(t, zero[1:], 0)
}

// TestBatch: P14.1: the first records of the view, no more than most, and the number of the last one of these, which need not be that of the last record; none, and 0, if most is 0 or below.
func TestBatch(t *testing.T) {
	for _, l := range [][]nv.Record{recs(4), recs(4, 4), recs(1, 2, 1), recs(5, 6, 7), recs(3, 1, 2, 3, 2, 5, 1, 4), recs(1, 2, 3, 3, 2, 1)} {
		view := View(l)
		for _, most := range []int{math.MinInt, math.MinInt + 1, -1 << 32, -len(l), -2, -1, 0} {
			mustBatch(t, l, most, nil, 0)
		}
		for most := 1; most < len(view); most++ {
			mustBatch(t, l, most, view[:most], view[most-1].Seq)
		}
		for _, most := range []int{len(view), len(view) + 1, len(l) + 1, 1 << 32, math.MaxInt - 1, math.MaxInt} {
			mustBatch(t, l, most, view, view[len(view)-1].Seq)
		}
	}
	l := recs(1, 2, 1, 3, 3)
	mustBatch(t, l, 1, pick(l, 1), 2)
	mustBatch(t, l, 2, pick(l, 1, 2), 3)
	mustBatch(t, l, 3, pick(l, 1, 2, 4), 5)
	mustBatch(t, l, 4, pick(l, 1, 2, 4), 5)
}

// TestBatchAnyNumber: P14.1: the number of the last one in a batch is what it is: not the greatest one of them, and not how many there are.
func TestBatchAnyNumber(t *testing.T) {
	l := []nv.Record{rec(greatest, 1), rec(1<<63, 2), rec(7, 3), rec(0, 4), rec(1<<32, 5)}
	for i, r := range l {
		mustBatch(t, l, i+1, l[:i+1], r.Seq)
	}
}

// TestBatchesEmptyMemory: P14.1, P7.2: batch after batch, committed up to the number that comes with each, leave no record, and what was staged last of each block comes once.
func TestBatchesEmptyMemory(t *testing.T) {
	for most := 1; most < 9; most++ {
		left := recs(3, 1, 2, 3, 2, 5, 1, 4, 4, 3)
		want := View(left)
		var got []nv.Record
		// Each batch removes a record at least, so that there are no more batches than records.
		for range len(left) {
			batch, upTo := Batch(left, most)
			got = append(got, batch...)
			left = slices.DeleteFunc(left, func(r nv.Record) bool { return r.Seq <= upTo })
		}
		if !same(got, want) || len(left) > 0 {
			t.Errorf("batches of %d at most are %v, not %v, and leave %v", most, got, want, left)
		}
	}
}

// TestMany: P1, P14.1: as many records as there may be in a program, and more: of one block, and of as many blocks.
func TestMany(t *testing.T) {
	const n = 50000
	one, each := make([]nv.Record, n), make([]nv.Record, n)
	for i := range n {
		one[i], each[i] = rec(uint64(i+1), 6), rec(uint64(i+1), n-i)
	}
	mustView(t, one, one[n-1:])
	mustFind(t, one, 6, one[n-1])
	mustBatch(t, one, 2, one[n-1:], n)
	mustView(t, each, each)
	mustFind(t, each, n, each[0])
	mustBatch(t, each, n-1, each[:n-1], n-1)
}
