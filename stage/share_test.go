package stage

import (
	"bytes"
	"slices"
	"testing"

	"drystone/nv"
)

// mark is the number in spare records, blot the byte in spare bytes.
const (
	mark = 555
	blot = 0xEE
)

// spacious returns records with spare capacity, as has the Data of each, with marks in what is spare.
func spacious(lbas ...int) []nv.Record {
	l := recs(lbas...)
	for i := range l {
		whole := append(slices.Clone(l[i].Data), blot, blot, blot)
		l[i].Data = whole[:len(whole)-3]
	}
	n := len(l)
	for range 3 {
		l = append(l, nv.Record{Seq: mark, Lba: mark, Data: []byte{blot}})
	}
	return l[:n]
}

// mustBeWhole checks that records are still as spacious returned them, the spare capacity included.
func mustBeWhole(t *testing.T, l []nv.Record, lbas ...int) {
	t.Helper()
	if want := recs(lbas...); !same(l, want) {
		t.Errorf("the records are %v, not %v", l, want)
	}
	for _, r := range l {
		if rest := r.Data[len(r.Data) : len(r.Data)+3]; !bytes.Equal(rest, []byte{blot, blot, blot}) {
			t.Errorf("the spare bytes of %v are %v", r, rest)
		}
	}
	for _, r := range l[len(l) : len(l)+3] {
		if !alike(r, nv.Record{Seq: mark, Lba: mark, Data: []byte{blot}}) {
			t.Errorf("a spare record is %v", r)
		}
	}
}

// spoil overwrites records and all that belongs to them, the spare capacity included.
func spoil(l []nv.Record) {
	l = l[:cap(l)]
	for i, r := range l {
		spoilBytes(r.Data)
		l[i] = nv.Record{Seq: 1234, Kind: 77, Lba: -5, Data: []byte{1}}
	}
}

// spoilBytes overwrites bytes and their spare capacity.
func spoilBytes(b []byte) {
	b = b[:cap(b)]
	for i := range b {
		b[i] = 0x11
	}
}

// TestArgumentsStay: R5: the records that are passed are not changed, nor their bytes, nor what is spare of both.
func TestArgumentsStay(t *testing.T) {
	lbas := []int{3, 1, 2, 3, 2, 5, 1, 4}
	l := spacious(lbas...)
	for range 2 {
		View(l)
		for n := -1; n < 10; n++ {
			Find(l, n)
			Batch(l, n)
		}
		mustBeWhole(t, l, lbas...)
	}
}

// TestArgumentsAreNotKept: R5: what was returned stays as it is when the records that were passed change.
func TestArgumentsAreNotKept(t *testing.T) {
	lbas := []int{3, 1, 2, 3, 2, 5, 1, 4}
	l, want := spacious(lbas...), pick(recs(lbas...), 3, 4, 5, 6, 7)
	view := View(l)
	batch, upTo := Batch(l, 3)
	found, ok := Find(l, 2)
	spoil(l)
	if !same(view, want) {
		t.Errorf("the view is %v now, not %v", view, want)
	}
	if !same(batch, want[:3]) || upTo != 6 {
		t.Errorf("the batch is %v, %d now, not %v, 6", batch, upTo, want[:3])
	}
	if !ok || !alike(found, want[1]) {
		t.Errorf("the record is %v now, not %v", found, want[1])
	}
}

// TestResultsShareNothing: R5: what is returned is neither what was passed nor an earlier result, its bytes and its spare capacity included.
func TestResultsShareNothing(t *testing.T) {
	lbas := []int{3, 1, 2, 3, 2, 5, 1, 4}
	want := pick(recs(lbas...), 3, 4, 5, 6, 7)
	for most := range 7 {
		l := spacious(lbas...)
		view, second := View(l), View(l)
		batch, _ := Batch(l, most)
		again, upTo := Batch(l, most)
		found, _ := Find(l, 2)
		other, ok := Find(l, 2)
		spoil(view)
		spoil(batch)
		spoilBytes(found.Data)
		mustBeWhole(t, l, lbas...)
		many := min(most, len(want))
		if !same(second, want) || !same(again, want[:many]) || !ok || !alike(other, want[1]) {
			t.Errorf("most %d: the earlier results are %v, %v and %v now", most, second, again, other)
		}
		mustView(t, l, want)
		mustBatch(t, l, most, want[:many], upTo)
		mustFind(t, l, 2, want[1])
	}
}

// TestSharedBytes: R5: records that are passed may have the same bytes; those that are returned have bytes of their own.
func TestSharedBytes(t *testing.T) {
	b := []byte{1, 2, 3, 4}
	l := []nv.Record{{Seq: 1, Lba: 1, Data: b}, {Seq: 2, Lba: 2, Data: b[:2]}, {Seq: 3, Lba: 3, Data: b[1:]}, {Seq: 4, Lba: 4, Data: b[:0]}}
	batch, _ := Batch(l, 4)
	for _, got := range [][]nv.Record{View(l), batch} {
		for i, r := range l {
			if !alike(got[i], r) {
				t.Errorf("the record is %v, not %v", got[i], r)
			}
			spoilBytes(got[i].Data)
		}
	}
	if !bytes.Equal(b, []byte{1, 2, 3, 4}) {
		t.Errorf("the bytes are %v now", b)
	}
}

// TestEmptyResults: R5: what is appended to an empty result is in nothing else.
func TestEmptyResults(t *testing.T) {
	l := spacious(1, 2, 1)
	none, _ := Batch(l, 0)
	spoil(append(none, rec(9, 9)))
	spoil(append(View(l[:0]), rec(9, 9)))
	missed, _ := Find(l, 7)
	spoilBytes(append(missed.Data, 9))
	mustBeWhole(t, l, 1, 2, 1)
	mustBatch(t, l, 0, nil, 0)
	mustView(t, l[:0], nil)
	mustMiss(t, l, 7)
}
