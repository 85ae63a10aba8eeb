package stage

import (
	"math"
	"math/rand"
	"slices"
	"testing"

	"drystone/nv"
)

// viewOf is an independent statement of the view: the records after which none of the same block comes.
func viewOf(l []nv.Record) []nv.Record {
	var view []nv.Record
	for i, r := range l {
		if !slices.ContainsFunc(l[i+1:], func(later nv.Record) bool { return later.Lba == r.Lba }) {
			view = append(view, r)
		}
	}
	return view
}

// some returns so many records at random, of few blocks.
func some(r *rand.Rand, n, blocks int) []nv.Record {
	var l []nv.Record
	for range n {
		data := make([]byte, r.Intn(4))
		r.Read(data)
		l = append(l, nv.Record{Seq: r.Uint64() >> r.Intn(64), Kind: nv.Kind(r.Intn(6) - 1), Lba: r.Intn(blocks) - 2, Data: data})
	}
	return l
}

// TestRandom: P14.1: whatever the records are, the calls are as the independent statement tells.
func TestRandom(t *testing.T) {
	r := rand.New(rand.NewSource(14))
	for range 600 {
		blocks := 1 + r.Intn(24)
		l := some(r, r.Intn(30), blocks)
		view := viewOf(l)
		mustView(t, l, view)
		for lba := -4; lba < blocks; lba++ {
			i := slices.IndexFunc(view, func(x nv.Record) bool { return x.Lba == lba })
			if i < 0 {
				mustMiss(t, l, lba)
			} else {
				mustFind(t, l, lba, view[i])
			}
		}
		for most := -1; most < len(l)+2; most++ {
			mustBatchOf(t, l, most, view)
		}
		mustBatchOf(t, l, math.MinInt, view)
		mustBatchOf(t, l, math.MaxInt, view)
	}
}

// mustBatchOf checks a batch against the view.
func mustBatchOf(t *testing.T, l []nv.Record, most int, view []nv.Record) {
	t.Helper()
	var want []nv.Record
	var upTo uint64
	for i, r := range view {
		if i < most {
			want, upTo = append(want, r), r.Seq
		}
	}
	mustBatch(t, l, most, want, upTo)
}
