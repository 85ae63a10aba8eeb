package array

import (
	"bytes"
	"fmt"
	"slices"
	"testing"

	"drystone/api"
	"drystone/geom"
	"drystone/nv"
	"drystone/power"
)

// P11.1 to P11.4: the document's example.
func TestExample(t *testing.T) {
	r := reelOf(t, shapes()[0], -1)
	one, two := bytes.Repeat([]byte{1}, 32), bytes.Repeat([]byte{2}, 32)
	// Of stripe 2, chunk 0 lies on member 0, chunk 1 on member 1, the parity on member 2.
	if err := r.a.Put(2, [][]byte{one, two}); err != api.OK {
		t.Fatalf("Put = %d", err)
	}
	if got := r.l[2].sectors[r.s.StripeAt(2)]; !bytes.Equal(got, bytes.Repeat([]byte{3}, 32)) {
		t.Errorf("the parity is %v", got)
	}
	r.l[1].works = 0
	if got, err := r.a.Chunk(2, 1); err != api.OK || !bytes.Equal(got, two) {
		t.Errorf("without the second member it is %v, %d", got, err)
	}
	r.mustBe(t, 1, false)
}

// P11.1: a new array is of the root's shape, not broken, and has the member that is not current of the root. Making it is no operation.
func TestNew(t *testing.T) {
	for _, s := range append(shapes(), geom.Shape{Members: 16, Block: 512, Segments: 64, Stripes: 16, Nv: 224, Logical: 1}) {
		for stale := -1; stale < s.Members; stale++ {
			r := reelOf(t, s, stale)
			r.mustBe(t, stale, false)
			if r.did() != 0 || r.p.Used() != 1 {
				t.Errorf("%d and %d operations", r.did(), r.p.Used())
			}
		}
	}
}

// P11.1, R3: ErrArg if the root's shape is not valid, however many members there are.
func TestNewInvalidShape(t *testing.T) {
	for _, s := range invalid() {
		for many := range 18 {
			n := nv.New(power.New(-1))
			n.Set(rootOf(s, -1))
			var l []Device
			for range many {
				l = append(l, &tape{})
			}
			if a, err := New(l, n); a != nil || err != api.ErrArg {
				t.Errorf("New of %d members, %+v = %v, %d", many, s, a, err)
			}
		}
	}
	if a, err := New(nil, nv.New(power.New(-1))); a != nil || err != api.ErrArg {
		t.Errorf("New over a memory without a shape = %v, %d", a, err)
	}
}

// P11.1, R3, R4: ErrArg if there are fewer or more members than the shape has: none, nil, one that is none.
func TestNewOtherMembers(t *testing.T) {
	for _, s := range shapes() {
		n := nv.New(power.New(-1))
		n.Set(rootOf(s, -1))
		all := make([]Device, 40)
		for i := range all {
			all[i] = &tape{}
		}
		hole := slices.Clone(all[:s.Members])
		hole[s.Members/2] = nil
		lists := [][]Device{nil, {}, hole}
		for many := range all {
			if many != s.Members {
				lists = append(lists, all[:many])
			}
		}
		for _, l := range lists {
			if a, err := New(l, n); a != nil || err != api.ErrArg {
				t.Errorf("New of %d members, not %d = %v, %d", len(l), s.Members, a, err)
			}
		}
	}
}

// P11.1, R6: that an array is broken is its own; another one over the same members and the same memory has but the root's Stale.
func TestNewAfterBroken(t *testing.T) {
	r := reelOf(t, shapes()[0], -1)
	r.a.Lose(1)
	r.a.Lose(2)
	r.mustBe(t, 1, true)
	l := []Device{r.l[0], r.l[1], r.l[2]}
	other, err := New(l, r.n)
	if err != api.OK || other.Broken() || other.Stale() != 1 {
		t.Errorf("New = %d, Broken %t, Stale %d", err, other.Broken(), other.Stale())
	}
	if _, err := other.Chunk(0, 0); err != api.OK {
		t.Errorf("Chunk = %d", err)
	}
	mustBeBroken(t, r)
}

// P11.1: the member that is not current is the root's Stale, whoever sets it.
func TestStaleIsTheRoots(t *testing.T) {
	for _, s := range shapes() {
		r := reelOf(t, s, -1)
		for stale := s.Members - 1; stale >= -1; stale-- {
			r.n.Set(rootOf(s, stale))
			r.mustBe(t, stale, false)
			for k := range s.Members - 1 {
				c := chunkCall(1, k)
				if b, err := c.do(r); err != api.OK || !bytes.Equal(b, c.want(r, stale)) {
					t.Errorf("%s, %d not current: %v, %d", c.name, stale, b, err)
				}
			}
		}
	}
}

// P11.1: a member that is lost when all are current becomes the root's Stale, and nothing else changes; no operation of a member is needed for that.
func TestLose(t *testing.T) {
	for _, s := range shapes() {
		for m := range s.Members {
			r := reelOf(t, s, -1)
			before := r.sectors()
			for range 3 {
				if err := r.a.Lose(m); err != api.OK {
					t.Errorf("Lose(%d) = %d", m, err)
				}
				r.mustBe(t, m, false)
			}
			if r.did() != 0 {
				t.Errorf("%d operations", r.did())
			}
			r.mustHave(t, before)
		}
	}
}

// P11.1: another member that is lost while one is not current breaks the array; the root stays as it was. The one that is not current is not lost again.
func TestLoseAnother(t *testing.T) {
	for _, s := range shapes() {
		for stale := range s.Members {
			for m := range s.Members {
				r := reelOf(t, s, stale)
				err := r.a.Lose(m)
				if m == stale {
					if err != api.OK {
						t.Errorf("Lose(%d) = %d, it was not current", m, err)
					}
					r.mustBe(t, stale, false)
					continue
				}
				if err != api.ErrDegraded {
					t.Errorf("Lose(%d) = %d, %d was not current", m, err, stale)
				}
				r.mustBe(t, stale, true)
			}
		}
		r := reelOf(t, s, 0)
		r.a.Lose(s.Members - 1)
		mustBeBroken(t, r)
	}
}

// P11.1 to P11.4, R2, R3: ErrArg for every wrong argument, whether all members are current, one is not, or it cannot be written; nothing is done then.
func TestArg(t *testing.T) {
	for _, s := range shapes() {
		for _, stale := range []int{-1, 0, s.Members - 1} {
			r := reelOf(t, s, stale)
			for _, x := range r.l {
				x.works = 0
			}
			before := r.sectors()
			for what, err := range wrongCalls(r) {
				if err != api.ErrArg {
					t.Errorf("%d not current: %s = %d", stale, what, err)
				}
			}
			if r.did() != 0 || r.p.Used() != 1 {
				t.Errorf("%d and %d operations", r.did(), r.p.Used())
			}
			r.mustBe(t, stale, false)
			r.mustHave(t, before)
		}
	}
}

// P11.1: Replace calls Blank on the member that is not current, and on no other one; that member is not current afterwards either.
func TestReplace(t *testing.T) {
	for _, s := range shapes() {
		for stale := range s.Members {
			n := nv.New(power.New(-1))
			n.Set(rootOf(s, stale))
			var l []Device
			var spares []*spare
			for range s.Members {
				x := &spare{tape: &tape{works: -1}}
				l, spares = append(l, x), append(spares, x)
			}
			a, err := New(l, n)
			if err != api.OK {
				t.Fatalf("New = %d", err)
			}
			for m := -1; m <= s.Members; m++ {
				want := api.ErrArg
				if m == stale {
					want = api.OK
				}
				if err := a.Replace(m); err != want {
					t.Errorf("Replace(%d) = %d, %d is not current", m, err, stale)
				}
			}
			for m, x := range spares {
				if (x.blanked == 1) != (m == stale) || x.blanked > 1 || len(x.did) != 0 {
					t.Errorf("Blank was called %d times on member %d, with %v, and %d is not current", x.blanked, m, x.did, stale)
				}
			}
			if n.Root() != rootOf(s, stale) || a.Broken() {
				t.Errorf("the root is %+v, broken %t", n.Root(), a.Broken())
			}
			if err := a.Replace(stale); err != api.OK || spares[stale].blanked != 2 {
				t.Errorf("Replace once more = %d, %d", err, spares[stale].blanked)
			}
		}
	}
}

// P11.1: ErrArg for a member that is current, for -1 while all are, and for one that there is not.
func TestReplaceArg(t *testing.T) {
	for _, s := range shapes() {
		n := nv.New(power.New(-1))
		n.Set(rootOf(s, -1))
		l := make([]Device, s.Members)
		for m := range l {
			l[m] = &spare{tape: &tape{works: -1}}
		}
		a, _ := New(l, n)
		for _, stale := range []int{-1, 0, 1} {
			n.Set(rootOf(s, stale))
			for _, m := range append(beyond(s.Members), 2, s.Members-1) {
				if err := a.Replace(m); err != api.ErrArg {
					t.Errorf("Replace(%d) = %d, %d is not current", m, err, stale)
				}
			}
		}
		for m, x := range l {
			if x.(*spare).blanked != 0 {
				t.Errorf("Blank was called on member %d", m)
			}
		}
	}
}

// P11.1: ErrArg for a member that is no Blanker, while others are.
func TestReplaceNoBlanker(t *testing.T) {
	n := nv.New(power.New(-1))
	n.Set(rootOf(shapes()[0], 1))
	x, y := &spare{tape: &tape{}}, &spare{tape: &tape{}}
	a, _ := New([]Device{x, &tape{}, y}, n)
	if err := a.Replace(1); err != api.ErrArg || x.blanked+y.blanked != 0 {
		t.Errorf("Replace = %d, Blank was called %d times on the others", err, x.blanked+y.blanked)
	}
}

// P11.2: every chunk of every stripe is read as its member has it if that is current, and is the parity of all others if not; for every member, also the one with the stripe's parity. What the member that is not current has does not count, though it could be read.
func TestChunk(t *testing.T) {
	for _, s := range shapes() {
		for stale := -1; stale < s.Members; stale++ {
			r := reelOf(t, s, stale)
			before := r.sectors()
			for stripe := range s.All() {
				for k := range s.Members - 1 {
					c := chunkCall(stripe, k)
					if b, err := c.do(r); err != api.OK || !bytes.Equal(b, c.want(r, stale)) {
						t.Errorf("%s, %d not current: %v, %d", c.name, stale, b, err)
					}
				}
			}
			r.mustBe(t, stale, false)
			r.mustHave(t, before)
			if stale >= 0 && len(r.l[stale].did) != 0 {
				t.Errorf("the member that is not current was asked: %v", r.l[stale].did)
			}
		}
	}
}

// P11.2: a member that is lost in Chunk itself is made good in that call, for every stripe, chunk and member; the others are not lost for it.
func TestChunkLostNow(t *testing.T) {
	for _, s := range shapes() {
		for stripe := range s.All() {
			for k := range s.Members - 1 {
				m := (stripe + 1 + k) % s.Members
				for lost := range s.Members {
					r := reelOf(t, s, -1)
					r.l[lost].works = 0
					stale := -1
					if lost == m {
						stale = m
					}
					c := chunkCall(stripe, k)
					if b, err := c.do(r); err != api.OK || !bytes.Equal(b, c.want(r, stale)) {
						t.Errorf("%s, %d lost: %v, %d", c.name, lost, b, err)
					}
					r.mustBe(t, stale, false)
				}
			}
		}
	}
}

// P11.2: with a member that is gone before Put, that is lost at its write, or at its flush, all others have got theirs, and were flushed after that.
func TestPutOneGone(t *testing.T) {
	for _, s := range shapes() {
		for m := range s.Members {
			for _, before := range []bool{true, false} {
				for works := range 2 {
					r := reelOf(t, s, -1)
					if before {
						r.n.Set(rootOf(s, m))
					}
					r.l[m].works = works
					want := r.sectors()
					stripe := s.All() - 1
					for other, b := range spread(s, stripe, chunksOf(s, 3)) {
						if other != m || works == 1 {
							want[other][s.StripeAt(stripe)] = b
						}
					}
					if err := r.a.Put(stripe, chunksOf(s, 3)); err != api.OK {
						t.Errorf("Put = %d", err)
					}
					r.mustBe(t, m, false)
					r.mustHave(t, want)
					for other, x := range r.l {
						if other != m && !slices.Equal(x.did, []string{fmt.Sprint("write ", s.StripeAt(stripe)), "flush"}) {
							t.Errorf("member %d: %v", other, x.did)
						}
					}
				}
			}
		}
	}
}

// P11.3: Same returns any sector, the least and the greatest among them, of the first member that is current.
func TestSame(t *testing.T) {
	for _, s := range shapes() {
		for stale := -1; stale < s.Members; stale++ {
			r := reelOf(t, s, stale)
			before := r.sectors()
			for i := range s.Sectors() {
				c := sameCall(i)
				if b, err := c.do(r); err != api.OK || !bytes.Equal(b, c.want(r, stale)) {
					t.Errorf("%s, %d not current: %v, %d", c.name, stale, b, err)
				}
			}
			r.mustBe(t, stale, false)
			r.mustHave(t, before)
		}
	}
}

// P11.3: Same goes on to the second member if the first one is lost now; where the second one or the last one would fail, it is not asked.
func TestSameLostNow(t *testing.T) {
	for _, s := range shapes() {
		for i := range s.Sectors() {
			for m := range s.Members {
				r := reelOf(t, s, -1)
				r.l[m].works = 0
				stale := -1
				if m == 0 {
					stale = 0
				}
				c := sameCall(i)
				if b, err := c.do(r); err != api.OK || !bytes.Equal(b, c.want(r, stale)) {
					t.Errorf("%s, %d lost: %v, %d", c.name, m, b, err)
				}
				r.mustBe(t, stale, false)
			}
		}
	}
}

// P11.3: PutSame writes any sector, the least and the greatest among them, on all members, whichever of them is not current, and no other sector; it does not flush.
func TestPutSame(t *testing.T) {
	for _, s := range shapes() {
		for stale := -1; stale < s.Members; stale++ {
			for _, i := range []int{0, 1, s.StripeAt(0) - 1, s.StripeAt(0), s.Sectors() - 1} {
				r := reelOf(t, s, stale)
				want := r.sectors()
				b := content(200, i, s.Block)
				if err := r.a.PutSame(i, b); err != api.OK {
					t.Errorf("PutSame(%d) = %d", i, err)
				}
				for m, x := range r.l {
					want[m][i] = b
					if !slices.Equal(x.did, []string{fmt.Sprint("write ", i)}) {
						t.Errorf("PutSame(%d): member %d: %v", i, m, x.did)
					}
				}
				r.mustHave(t, want)
				r.mustBe(t, stale, false)
				if got, err := r.a.Same(i); err != api.OK || !bytes.Equal(got, b) {
					t.Errorf("Same(%d) = %v, %d", i, got, err)
				}
			}
		}
	}
}

// P11.4: Mend sets the sector of the member that is not current to the parity of all others, for every stripe and every member, and nothing else; the member is not current for that.
func TestMend(t *testing.T) {
	for _, s := range shapes() {
		for stale := range s.Members {
			for stripe := range s.All() {
				r := reelOf(t, s, stale)
				want, i := r.sectors(), s.StripeAt(stripe)
				want[stale][i] = together(r.but(stale, i)...)
				if err := r.a.Mend(stripe); err != api.OK {
					t.Errorf("Mend(%d) = %d", stripe, err)
				}
				r.mustHave(t, want)
				r.mustBe(t, stale, false)
			}
		}
	}
}

// P11.4: Finish gives the member that is not current the sectors behind its label, up to the stripes', as the first current one has them, and its label; it is flushed after that, and current.
func TestFinish(t *testing.T) {
	for _, s := range shapes() {
		for stale := range s.Members {
			r := reelOf(t, s, stale)
			want, first := r.sectors(), content(300, 0, s.Block)
			from := 0
			if stale == 0 {
				from = 1
			}
			for i := 1; i < s.StripeAt(0); i++ {
				want[stale][i] = want[from][i]
			}
			want[stale][0] = first
			if err := r.a.Finish(first); err != api.OK {
				t.Errorf("Finish = %d", err)
			}
			r.mustHave(t, want)
			r.mustBe(t, -1, false)
			did := r.l[stale].did
			if len(did) != s.StripeAt(0)+1 || did[len(did)-1] != "flush" || slices.Index(did, "flush") != len(did)-1 {
				t.Errorf("the member that was not current: %v", did)
			}
			if err := r.a.Finish(first); err != api.ErrState {
				t.Errorf("Finish once more = %d", err)
			}
		}
	}
}

// P11.4: ErrState for Mend and Finish while all members are current, whether they could be read and written or not; nothing is done.
func TestErrState(t *testing.T) {
	for _, s := range shapes() {
		for _, works := range []int{-1, 0} {
			r := reelOf(t, s, -1)
			for _, x := range r.l {
				x.works = works
			}
			for _, c := range menders(s) {
				if _, err := c.do(r); err != api.ErrState {
					t.Errorf("%s = %d", c.name, err)
				}
			}
			r.mustBe(t, -1, false)
			if r.did() != 0 {
				t.Errorf("%d operations", r.did())
			}
		}
	}
}

// R5: the list of members is neither changed nor kept, nor its spare capacity.
func TestNewCopiesTheList(t *testing.T) {
	r := reelOf(t, shapes()[0], -1)
	extra := &tape{}
	whole := []Device{r.l[0], r.l[1], r.l[2], extra}
	a, err := New(whole[:3], r.n)
	if err != api.OK || whole[0] != r.l[0] || whole[1] != r.l[1] || whole[2] != r.l[2] || whole[3] != extra {
		t.Errorf("New = %d, or the list was changed", err)
	}
	clear(whole)
	if err := a.Put(0, chunksOf(r.s, 1)); err != api.OK {
		t.Errorf("Put = %d", err)
	}
	if b, err := a.Chunk(0, 1); err != api.OK || !bytes.Equal(b, chunksOf(r.s, 1)[1]) {
		t.Errorf("Chunk = %v, %d", b, err)
	}
}

// roomy returns a list of blocks as parts of one piece of memory, one behind the other, so that each has spare capacity that is somebody else's.
func roomy(l [][]byte) ([]byte, [][]byte) {
	whole := append(bytes.Join(l, nil), 1, 2, 3)
	var parts [][]byte
	at := 0
	for _, b := range l {
		parts = append(parts, whole[at:at+len(b)])
		at += len(b)
	}
	return whole, parts
}

// R5: blocks that are passed in are not changed, nor their spare capacity, nor the list of them; nor are they kept: changing them afterwards changes no member.
func TestArgumentsStay(t *testing.T) {
	for _, s := range shapes() {
		for _, stale := range []int{-1, 0, s.Members - 1} {
			r := reelOf(t, s, stale)
			whole, chunks := roomy(chunksOf(s, 8))
			before, list := slices.Clone(whole), append(slices.Clone(chunks), []byte("spare"))
			one, two := whole[:s.Block], whole[s.Block:2*s.Block]
			if r.a.Put(1, list[:len(chunks)]) != api.OK || r.a.PutSame(1, one) != api.OK {
				t.Error("Put or PutSame")
			}
			if stale >= 0 && r.a.Finish(two) != api.OK {
				t.Error("Finish")
			}
			if !bytes.Equal(whole, before) || string(list[len(chunks)]) != "spare" {
				t.Error("the blocks were changed")
			}
			for k := range chunks {
				if &chunks[k][0] != &list[k][0] {
					t.Error("the list was changed")
				}
			}
			has := r.sectors()
			clear(whole)
			clear(list)
			r.mustHave(t, has)
			for k, want := range chunksOf(s, 8) {
				if b, err := r.a.Chunk(1, k); err != api.OK || !bytes.Equal(b, want) {
					t.Errorf("Chunk(1, %d) = %v, %d", k, b, err)
				}
			}
		}
	}
}

// R5: no two members share what they were given, by Put, PutSame, Mend and Finish.
func TestMembersShareNothing(t *testing.T) {
	for _, s := range shapes() {
		r := reelOf(t, s, s.Members-1)
		r.a.Put(1, chunksOf(s, 8))
		r.a.PutSame(1, content(1, 1, s.Block))
		r.a.Mend(0)
		if err := r.a.Finish(content(2, 2, s.Block)); err != api.OK {
			t.Errorf("Finish = %d", err)
		}
		want := r.sectors()
		for m, x := range r.l {
			for i, b := range x.sectors {
				clear(b[:cap(b)])
				clear(want[m][i])
				if i < 3 || i == s.StripeAt(0) || i == s.StripeAt(1) {
					r.mustHave(t, want)
				}
			}
		}
	}
}

// R5: what Chunk and Same return shares nothing with the members or with another result, whether it is a member's sector or the parity of others.
func TestResultsAreNew(t *testing.T) {
	for _, s := range shapes() {
		for _, stale := range []int{-1, 0, 1, s.Members - 1} {
			r := reelOf(t, s, stale)
			has := r.sectors()
			for _, c := range calls(s) {
				if c.name[:5] != "Chunk" && c.name[:4] != "Same" {
					continue
				}
				first, _ := c.do(r)
				second, _ := c.do(r)
				want := slices.Clone(c.want(r, stale))
				first = first[:cap(first)]
				for i := range first {
					first[i] ^= 0xFF
				}
				if !bytes.Equal(second, want) {
					t.Errorf("%s: a second result changed with the first one", c.name)
				}
				r.mustHave(t, has)
				for _, x := range r.l {
					for _, b := range x.sectors {
						for i := range b {
							b[i] ^= 0xFF
						}
					}
				}
				if !bytes.Equal(second, want) {
					t.Errorf("%s: a result changed with the members", c.name)
				}
				for _, x := range r.l {
					for _, b := range x.sectors {
						for i := range b {
							b[i] ^= 0xFF
						}
					}
				}
			}
		}
	}
}
