package lmap

import (
	"math"
	"math/rand"
	"slices"
	"testing"
)

// calls is an independent statement of a map: the calls of Set that it had, from which everything is worked out anew.
type calls struct {
	n    int
	list []call
}

// call is one call of Set.
type call struct {
	lba, place int
}

// place works out the place of a block from the last call for it.
func (c *calls) place(lba int) int {
	for _, x := range slices.Backward(c.list) {
		if x.lba == lba && 0 <= lba && lba < c.n {
			return max(x.place, -1)
		}
	}
	return -1
}

// all works out the places of all blocks.
func (c *calls) all() []int {
	var l []int
	for lba := range c.n {
		l = append(l, c.place(lba))
	}
	return l
}

// pages works out of how many pages a block was ever mapped.
func (c *calls) pages() int {
	seen := map[int]bool{}
	for _, x := range c.list {
		if 0 <= x.lba && x.lba < c.n && x.place >= 0 {
			seen[x.lba/16] = true
		}
	}
	return len(seen)
}

// within works out which blocks lie in a range of places.
func (c *calls) within(from, to int) []int {
	var l []int
	for lba, place := range c.all() {
		if place >= 0 && place >= from && place < to {
			l = append(l, lba)
		}
	}
	return l
}

// somewhere returns a place at random, a negative one among them.
func somewhere(r *rand.Rand) int {
	odd := []int{math.MinInt, -1, 0, 1, math.MaxInt - 1, math.MaxInt}
	if r.Intn(8) == 0 {
		return odd[r.Intn(len(odd))]
	}
	return r.Intn(16) - 4
}

// TestRandom: P13.1: whatever is set in a map, it is as the calls of Set tell.
func TestRandom(t *testing.T) {
	r := rand.New(rand.NewSource(13))
	for range 60 {
		c := &calls{n: r.Intn(4 * Wide)}
		m := New(c.n)
		for range 60 {
			lba, place := r.Intn(c.n+6)-3, somewhere(r)
			mustSet(t, m, lba, place, c.place(lba))
			c.list = append(c.list, call{lba, place})
			mustHold(t, m, c.all())
			mustPages(t, m, c.pages())
			from, to := somewhere(r), somewhere(r)
			mustWithin(t, m, from, to, c.within(from, to)...)
		}
	}
}
