package log

import (
	"bytes"
	"testing"

	"drystone/api"
	"drystone/note"
	"drystone/nv"
)

// spoil overwrites bytes and their spare capacity.
func spoil(b []byte) {
	b = b[:cap(b)]
	for i := range b {
		b[i] = 0x11
	}
}

// TestReadResultsAreNew: R5: what Read returned is nothing that a record, a member or a later result has, its spare capacity included.
func TestReadResultsAreNew(t *testing.T) {
	r := halfFull(t)
	r.mustAppend(t, nv.Write, 14, r.full(0xAB))
	want := map[int][]byte{0: {1}, 12: {112}, 2: nil, 13: nil, 14: r.full(0xAB), 5: {6}}
	for range 2 {
		for lba, data := range want {
			b, _ := r.Read(lba)
			other, _ := r.Read(lba)
			spoil(b)
			if !bytes.Equal(other, padded(data, r.s.Block)) {
				t.Errorf("an earlier result for block %d is %v now", lba, other)
			}
			r.mustRead(t, lba, data)
		}
		r.disks[0].Fail()
	}
	must(t, "Drain", r.Drain(), api.OK)
	for lba, data := range want {
		r.mustRead(t, lba, data)
	}
}

// TestApplyArguments: R5: a note that is applied is neither changed nor kept, its spare slots included.
func TestApplyArguments(t *testing.T) {
	r := made(t, wide())
	whole := []note.Entry{write(1), none(), write(2), write(7), trim(8)}
	x := note.Note{Seq: 3, Next: -1, Slots: whole[:2]}
	r.Apply(x)
	for i, e := range []note.Entry{write(1), none(), write(2), write(7), trim(8)} {
		if whole[i] != e {
			t.Errorf("entry %d is %v now", i, whole[i])
		}
	}
	if x.Seq != 3 || x.Next != -1 || len(x.Slots) != 2 {
		t.Errorf("the note is %v now", x)
	}
	before := r.state()
	for i := range whole {
		whole[i] = trim(1)
	}
	r.mustStay(t, before)
}

// TestDestageKeepsNothing: R5: what the members are given is not what the records have: neither can change the other.
func TestDestageKeepsNothing(t *testing.T) {
	r := made(t, wide())
	data := append(make([]byte, 0, 50), r.full(7)...)
	r.mustAppend(t, nv.Write, 1, data)
	r.mustAppend(t, nv.Write, 2, data[:3])
	spoil(data)
	must(t, "Destage", r.Destage(), api.OK)
	r.mustStripe(t, 0, r.noteWith(1, -1, write(1), write(2)), r.full(7), []byte{7, 7, 7})
}

// TestNewKeepsTheMembers: R5: the array and the memory are those that were passed; a log has a map and a table of its own.
func TestNewKeepsTheMembers(t *testing.T) {
	r := made(t, wide())
	other := New(r.Log.Array, r.n)
	other.Map.Set(1, 5)
	other.Table.Seal(0, 4)
	other.Apply(r.noteWith(1, -1))
	r.mustStay(t, made(t, wide()).state())
	must(t, "Lose", other.Lose(1), api.OK)
	if r.Stale() != 1 {
		t.Errorf("member %d is not current", r.Stale())
	}
}
