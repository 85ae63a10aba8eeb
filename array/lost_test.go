package array

import (
	"bytes"
	"math"
	"testing"

	"drystone/api"
	"drystone/power"
)

// P11.1 to P11.3: a member that fails at any of its operations of any call is lost, whatever its error: while all are current it becomes the root's Stale, and the call does as if it had been lost before.
func TestLostFirst(t *testing.T) {
	for _, s := range shapes() {
		for _, c := range calls(s) {
			for m, many := range operations(t, c, s, -1) {
				for works := range many {
					r := reelOf(t, s, -1)
					r.l[m].works = works
					r.l[m].err = []api.Errno{api.ErrDead, api.ErrArg, api.ErrDegraded, api.ErrSum, -1, 99}[(m+works)%6]
					if b, err := c.do(r); err != api.OK || !bytes.Equal(b, c.want(r, m)) {
						t.Errorf("%s, %d lost at its operation %d: %v, %d", c.name, m, works, b, err)
					}
					r.mustBe(t, m, false)
				}
			}
		}
	}
}

// P11.1 to P11.4: while another one is not current, that member breaks the array: this call and every later one return ErrDegraded, and the root stays.
func TestLostSecond(t *testing.T) {
	for _, s := range shapes()[:3] {
		for stale := range s.Members {
			for _, c := range append(calls(s), menders(s)...) {
				for m, many := range operations(t, c, s, stale) {
					if m == stale {
						continue
					}
					for works := range many {
						r := reelOf(t, s, stale)
						r.l[m].works = works
						r.l[m].err = []api.Errno{api.ErrDead, api.ErrArg, api.ErrState, 99}[(m+works)%4]
						if b, err := c.do(r); err != api.ErrDegraded || len(b) != 0 {
							t.Errorf("%s, %d lost at its operation %d, %d not current: %v, %d", c.name, m, works, stale, b, err)
						}
						r.mustBe(t, stale, true)
						mustBeBroken(t, r)
					}
				}
			}
		}
	}
}

// P11.1: a broken array stays so, even if the root is set to another Stale, or to -1.
func TestBrokenStays(t *testing.T) {
	for _, s := range shapes() {
		r := reelOf(t, s, 0)
		r.a.Lose(1)
		for _, stale := range []int{-1, 1, 0, s.Members - 1} {
			r.n.Set(rootOf(s, stale))
			mustBeBroken(t, r)
		}
	}
}

// P11.2, P11.3: errors of the member that is not current are ignored, at whichever of its operations.
func TestStaleFails(t *testing.T) {
	for _, s := range shapes() {
		for stale := range s.Members {
			for _, c := range calls(s) {
				for works := range operations(t, c, s, stale)[stale] + 1 {
					r := reelOf(t, s, stale)
					r.l[stale].works = works
					r.l[stale].err = []api.Errno{api.ErrDead, api.ErrArg, 99}[works%3]
					if b, err := c.do(r); err != api.OK || !bytes.Equal(b, c.want(r, stale)) {
						t.Errorf("%s, %d not current: %v, %d", c.name, stale, b, err)
					}
					r.mustBe(t, stale, false)
				}
			}
		}
	}
}

// P11.4: ErrDead if the member that is not current cannot be written, or flushed, at whichever of its operations and with whatever error; it is not current afterwards either, and the array is not broken.
func TestErrDead(t *testing.T) {
	for _, s := range shapes() {
		for stale := range s.Members {
			for _, c := range menders(s) {
				many := operations(t, c, s, stale)[stale]
				if many == 0 {
					t.Errorf("%s does nothing with the member that is not current", c.name)
				}
				for works := range many {
					r := reelOf(t, s, stale)
					r.l[stale].works = works
					r.l[stale].err = []api.Errno{api.ErrDead, api.ErrArg, api.ErrDegraded, 99}[works%4]
					for range 2 {
						if _, err := c.do(r); err != api.ErrDead {
							t.Errorf("%s, whose member fails at its operation %d: %d", c.name, works, err)
						}
						r.mustBe(t, stale, false)
						r.l[stale].works = works
					}
					r.l[stale].works = -1
					if _, err := c.do(r); err != api.OK {
						t.Errorf("%s, whose member works again: %d", c.name, err)
					}
				}
			}
		}
	}
}

// P11.4, R2: ErrDegraded goes before ErrDead: at whichever operation another member is lost, though the one that is not current cannot be written at all.
func TestDegradedBeforeDead(t *testing.T) {
	for _, s := range shapes() {
		for stale := range s.Members {
			for _, c := range menders(s) {
				for m, many := range operations(t, c, s, stale) {
					if m == stale {
						continue
					}
					for works := range many {
						r := reelOf(t, s, stale)
						r.l[stale].works = 0
						r.l[m].works = works
						if _, err := c.do(r); err != api.ErrDegraded {
							t.Errorf("%s, %d lost at its operation %d: %d", c.name, m, works, err)
						}
						r.mustBe(t, stale, true)
					}
				}
			}
		}
	}
}

// P11.2, P11.3: two members that are lost in one call break the array in that call. One of them is the root's Stale.
func TestTwoLostInOneCall(t *testing.T) {
	for _, s := range shapes()[:3] {
		for _, c := range calls(s) {
			many := operations(t, c, s, -1)
			for one := range s.Members {
				for two := range s.Members {
					for works := range max(many[one], 1) {
						r := reelOf(t, s, -1)
						r.l[one].works, r.l[two].works = works, works
						// In Chunk the second one is asked only since the first one was lost; in Same, only the two first ones are.
						both := one != two && many[one] > 0
						if c.name[:4] == "Same" {
							both = one == 0 && two == 1
						}
						if !both {
							continue
						}
						if b, err := c.do(r); err != api.ErrDegraded || len(b) != 0 {
							t.Errorf("%s, %d and %d lost: %v, %d", c.name, one, two, b, err)
						}
						if x := r.a.Stale(); !r.a.Broken() || x != one && x != two {
							t.Errorf("%s, %d and %d lost: Stale %d, Broken %t", c.name, one, two, x, r.a.Broken())
						}
						mustBeBroken(t, r)
					}
				}
			}
		}
	}
}

// P11.2: ErrDegraded for every chunk if two members are gone, one of them before and one now, unless its member and it alone is asked.
func TestChunkTwoGone(t *testing.T) {
	for _, s := range shapes() {
		for one := range s.Members {
			for two := range s.Members {
				if one == two {
					continue
				}
				r := reelOf(t, s, one)
				r.l[two].works = 0
				for stripe := range min(s.All(), s.Members) {
					for k := range s.Members - 1 {
						r.open(t, one)
						m := (stripe + 1 + k) % s.Members
						b, err := r.a.Chunk(stripe, k)
						if m != one && m != two {
							if err != api.OK || !bytes.Equal(b, r.l[m].sectors[s.StripeAt(stripe)]) {
								t.Errorf("Chunk(%d, %d) = %v, %d", stripe, k, b, err)
							}
							r.mustBe(t, one, false)
							continue
						}
						if err != api.ErrDegraded || len(b) != 0 {
							t.Errorf("Chunk(%d, %d) = %v, %d, %d and %d gone", stripe, k, b, err, one, two)
						}
						r.mustBe(t, one, true)
					}
				}
			}
		}
	}
}

// P1: a root whose Stale is no member, and not -1, or whose shape is another one than the array's, lets no call panic; a member that there is not can be neither replaced nor written.
func TestStrangeRoots(t *testing.T) {
	for _, s := range shapes() {
		for _, stale := range []int{math.MinInt, -2, s.Members, s.Members + 1, math.MaxInt} {
			for _, works := range []int{-1, 0} {
				for _, c := range append(calls(s), menders(s)...) {
					r := reelOf(t, s, stale)
					for _, x := range r.l {
						x.works = works
					}
					c.do(r)
					wrongCalls(r)
				}
			}
			r := reelOf(t, s, stale)
			for _, c := range menders(s) {
				if _, err := c.do(r); err != api.ErrDead {
					t.Errorf("%s, %d not current: %d", c.name, stale, err)
				}
			}
			if err := r.a.Replace(stale); err != api.ErrArg {
				t.Errorf("Replace(%d) = %d", stale, err)
			}
			r.mustBe(t, stale, false)
		}
		for _, other := range append(invalid(), shapes()...) {
			for _, stale := range []int{-1, 1} {
				for _, c := range append(calls(s), menders(s)...) {
					r := reelOf(t, s, stale)
					r.n.Set(rootOf(other, stale))
					r.l[0].works = 0
					c.do(r)
				}
			}
		}
	}
}

// P3.1, P11.1: if the power goes at Lose, nobody is lost, and the root is as it was.
func TestLoseOutage(t *testing.T) {
	for _, s := range shapes() {
		r := reelOf(t, s, -1)
		r.p.Limit(0)
		if !power.Run(func() { r.a.Lose(1) }) {
			t.Error("the power did not go")
		}
		r.p.Limit(-1)
		r.mustBe(t, -1, false)
		if err := r.a.Lose(0); err != api.OK {
			t.Errorf("Lose = %d", err)
		}
		r.mustBe(t, 0, false)
	}
}
