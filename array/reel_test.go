package array

import (
	"bytes"
	"fmt"
	"math"
	"slices"
	"testing"

	"drystone/api"
	"drystone/geom"
	"drystone/nv"
	"drystone/power"
)

// shapes are valid ones: with the fewest members and with the most, with few pages and with more.
func shapes() []geom.Shape {
	return []geom.Shape{
		{Members: 3, Block: 32, Segments: 4, Stripes: 2, Nv: 2, Logical: 1},
		{Members: 4, Block: 40, Segments: 5, Stripes: 3, Nv: 4, Logical: 8},
		{Members: 5, Block: 67, Segments: 4, Stripes: 2, Nv: 3, Logical: 1},
		{Members: 16, Block: 85, Segments: 4, Stripes: 2, Nv: 14, Logical: 3},
	}
}

// invalid are shapes that are not valid.
func invalid() []geom.Shape {
	l := []geom.Shape{{}, {Members: 3}, {Members: 16, Block: 84, Segments: 4, Stripes: 2, Nv: 14, Logical: 1}}
	for _, n := range []int{math.MinInt, -1, 0, 1 << 40, math.MaxInt} {
		for i := range 6 {
			s := shapes()[0]
			*[]*int{&s.Members, &s.Block, &s.Segments, &s.Stripes, &s.Nv, &s.Logical}[i] = n
			l = append(l, s)
		}
	}
	s := shapes()[0]
	s.Members = 2
	return append(l, s)
}

// rootOf is a root of a shape, of which nothing is zero.
func rootOf(s geom.Shape, stale int) nv.Root {
	return nv.Root{Shape: s, Gen: 77, Durable: 1 << 40, Stale: stale}
}

// tape is a member that is no disk, and no Blanker. It keeps the very bytes that it is given, and gives out those that it keeps. After some operations it fails, with an error of its own.
type tape struct {
	sectors [][]byte
	did     []string
	works   int // how many operations more it works; for ever, if below 0
	err     api.Errno
}

func (x *tape) do(what string) api.Errno {
	x.did = append(x.did, what)
	if x.works == 0 {
		return x.err
	}
	x.works--
	return api.OK
}

func (x *tape) Read(i int) ([]byte, api.Errno) {
	if err := x.do(fmt.Sprint("read ", i)); err != api.OK {
		return []byte("nothing that counts"), err
	}
	return x.sectors[i], api.OK
}

func (x *tape) Write(i int, b []byte) api.Errno {
	if err := x.do(fmt.Sprint("write ", i)); err != api.OK {
		return err
	}
	x.sectors[i] = b
	return api.OK
}

func (x *tape) Flush() api.Errno { return x.do("flush") }

// spare is a tape that is a Blanker.
type spare struct {
	*tape
	blanked int
}

func (x *spare) Blank() { x.blanked++ }

// content makes the bytes of a sector of a member, which are unlike those of every other one.
func content(m, i, size int) []byte {
	b := make([]byte, size)
	x := uint64(1000*m+i)*0x9E3779B97F4A7C15 + 1
	for k := range b {
		x ^= x << 13
		x ^= x >> 7
		x ^= x << 17
		b[k] = byte(x >> 32)
	}
	return b
}

// together is the parity of some blocks, bit by bit.
func together(l ...[]byte) []byte {
	out := slices.Clone(l[0])
	for _, b := range l[1:] {
		for i := range out {
			out[i] ^= b[i]
		}
	}
	return out
}

// reel is an array on tapes.
type reel struct {
	s geom.Shape
	n *nv.Nv
	p *power.Power
	l []*tape
	a *Array
}

// reelOf makes an array on tapes, the sectors of which have nothing to do with each other: no stripe has its parity.
func reelOf(t *testing.T, s geom.Shape, stale int) *reel {
	t.Helper()
	r := &reel{s: s, p: power.New(-1)}
	r.n = nv.New(r.p)
	for m := range s.Members {
		x := &tape{works: -1, err: api.ErrDead}
		for i := range s.Sectors() {
			x.sectors = append(x.sectors, content(m, i, s.Block))
		}
		r.l = append(r.l, x)
	}
	r.open(t, stale)
	return r
}

// open makes a new array on the same tapes.
func (r *reel) open(t *testing.T, stale int) {
	t.Helper()
	r.n.Set(rootOf(r.s, stale))
	var l []Device
	for _, x := range r.l {
		l = append(l, x)
	}
	var err api.Errno
	if r.a, err = New(l, r.n); err != api.OK {
		t.Fatalf("New = %d", err)
	}
}

// but returns sector i of all members but one.
func (r *reel) but(m, i int) [][]byte {
	var l [][]byte
	for other, x := range r.l {
		if other != m {
			l = append(l, x.sectors[i])
		}
	}
	return l
}

// sectors returns a copy of all that the members have.
func (r *reel) sectors() [][][]byte {
	var all [][][]byte
	for _, x := range r.l {
		var l [][]byte
		for _, b := range x.sectors {
			l = append(l, slices.Clone(b))
		}
		all = append(all, l)
	}
	return all
}

// did returns how many operations all members have done, or refused.
func (r *reel) did() int {
	n := 0
	for _, x := range r.l {
		n += len(x.did)
	}
	return n
}

// mustBe checks the state of an array and of its root, all of it.
func (r *reel) mustBe(t *testing.T, stale int, broken bool) {
	t.Helper()
	if r.a.Stale() != stale || r.a.Broken() != broken {
		t.Errorf("Stale %d, Broken %t, not %d, %t", r.a.Stale(), r.a.Broken(), stale, broken)
	}
	if got := r.n.Root(); got != rootOf(r.s, stale) {
		t.Errorf("the root is %+v, of which %d is not current", got, stale)
	}
}

// mustHave checks all that the members have.
func (r *reel) mustHave(t *testing.T, want [][][]byte) {
	t.Helper()
	for m, l := range r.sectors() {
		for i, b := range l {
			if !bytes.Equal(b, want[m][i]) {
				t.Errorf("sector %d of member %d is %v, not %v", i, m, b, want[m][i])
			}
		}
	}
}

// chunksOf makes the chunks of a stripe that are unlike those of every other one.
func chunksOf(s geom.Shape, seed int) [][]byte {
	var l [][]byte
	for k := range s.Members - 1 {
		l = append(l, content(100+k, seed, s.Block))
	}
	return l
}

// spread returns what each member has to have of some chunks of a stripe.
func spread(s geom.Shape, stripe int, chunks [][]byte) [][]byte {
	l := make([][]byte, s.Members)
	for k, b := range chunks {
		l[(stripe+1+k)%s.Members] = b
	}
	l[stripe%s.Members] = together(chunks...)
	return l
}

// call is one of the calls by which a member can be lost, with right arguments, and what it has to return while the member that is not current afterwards is stale.
type call struct {
	name string
	do   func(r *reel) ([]byte, api.Errno)
	want func(r *reel, stale int) []byte
}

// only makes of a call that returns an error alone one that returns nothing beside it.
func only(do func(r *reel) api.Errno) func(r *reel) ([]byte, api.Errno) {
	return func(r *reel) ([]byte, api.Errno) { return nil, do(r) }
}

func nothing(*reel, int) []byte { return nil }

func chunkCall(stripe, chunk int) call {
	return call{
		name: fmt.Sprintf("Chunk(%d, %d)", stripe, chunk),
		do:   func(r *reel) ([]byte, api.Errno) { return r.a.Chunk(stripe, chunk) },
		want: func(r *reel, stale int) []byte {
			m, i := (stripe+1+chunk)%r.s.Members, r.s.StripeAt(stripe)
			if m == stale {
				return together(r.but(m, i)...)
			}
			return r.l[m].sectors[i]
		},
	}
}

func sameCall(i int) call {
	return call{
		name: fmt.Sprintf("Same(%d)", i),
		do:   func(r *reel) ([]byte, api.Errno) { return r.a.Same(i) },
		want: func(r *reel, stale int) []byte {
			if stale == 0 {
				return r.l[1].sectors[i]
			}
			return r.l[0].sectors[i]
		},
	}
}

// calls are those that work while all members are current, and also while one is not.
func calls(s geom.Shape) []call {
	l := []call{
		{"Flush", only(func(r *reel) api.Errno { return r.a.Flush() }), nothing},
		sameCall(0), sameCall(1), sameCall(s.Sectors() - 1),
	}
	for _, stripe := range []int{0, 1, s.All() - 1} {
		l = append(l, call{fmt.Sprintf("Put(%d)", stripe), only(func(r *reel) api.Errno { return r.a.Put(stripe, chunksOf(s, 5)) }), nothing})
		for chunk := range s.Members - 1 {
			l = append(l, chunkCall(stripe, chunk))
		}
	}
	for _, i := range []int{0, 1, s.Sectors() - 1} {
		l = append(l, call{fmt.Sprintf("PutSame(%d)", i), only(func(r *reel) api.Errno { return r.a.PutSame(i, content(200, i, s.Block)) }), nothing})
	}
	return l
}

// menders are the calls that want a member that is not current.
func menders(s geom.Shape) []call {
	l := []call{{"Finish", only(func(r *reel) api.Errno { return r.a.Finish(content(300, 0, s.Block)) }), nothing}}
	for _, stripe := range []int{0, 1, s.All() - 1} {
		l = append(l, call{fmt.Sprintf("Mend(%d)", stripe), only(func(r *reel) api.Errno { return r.a.Mend(stripe) }), nothing})
	}
	return l
}

// operations returns how many operations each member has to do in a call, if none fails.
func operations(t *testing.T, c call, s geom.Shape, stale int) []int {
	t.Helper()
	r := reelOf(t, s, stale)
	if _, err := c.do(r); err != api.OK {
		t.Fatalf("%s, %d not current: %d", c.name, stale, err)
	}
	l := make([]int, s.Members)
	for m, x := range r.l {
		l[m] = len(x.did)
	}
	return l
}

// mustBeBroken checks that every call with right arguments returns ErrDegraded, nothing beside it, and does nothing.
func mustBeBroken(t *testing.T, r *reel) {
	t.Helper()
	stale, did, before := r.a.Stale(), r.did(), r.sectors()
	all := append(calls(r.s), menders(r.s)...)
	for _, m := range []int{math.MinInt, -1, 0, 1, r.s.Members - 1, r.s.Members, math.MaxInt} {
		all = append(all, call{name: fmt.Sprintf("Replace(%d)", m), do: only(func(r *reel) api.Errno { return r.a.Replace(m) })})
	}
	for m := range r.s.Members {
		all = append(all, call{name: fmt.Sprintf("Lose(%d)", m), do: only(func(r *reel) api.Errno { return r.a.Lose(m) })})
	}
	for _, c := range all {
		if b, err := c.do(r); err != api.ErrDegraded || len(b) != 0 {
			t.Errorf("broken: %s = %v, %d", c.name, b, err)
		}
	}
	for what, got := range wrongCalls(r) {
		if got != api.ErrArg {
			t.Errorf("broken: %s = %d", what, got)
		}
	}
	if r.did() != did {
		t.Errorf("%d operations on a broken array", r.did()-did)
	}
	r.mustBe(t, stale, true)
	r.mustHave(t, before)
}

// beyond are numbers that none of n things has.
func beyond(n int) []int {
	return []int{math.MinInt, math.MinInt + 1, -n, -2, -1, n, n + 1, 1 << 40, math.MaxInt - 1, math.MaxInt}
}

// noBlocks are bytes that are not a block.
func noBlocks(s geom.Shape) [][]byte {
	return [][]byte{nil, {}, make([]byte, 1), make([]byte, s.Block-1), make([]byte, s.Block+1), make([]byte, 2*s.Block)}
}

// wrongCalls does every call with wrong arguments, with one that is wrong and with several, and returns their errors. That of a result beside the error is told as OK. Replace is not among them.
func wrongCalls(r *reel) map[string]api.Errno {
	out, good, block := map[string]api.Errno{}, chunksOf(r.s, 1), content(1, 1, r.s.Block)
	tell := func(err api.Errno, b []byte, what ...any) {
		if len(b) != 0 {
			err = api.OK
		}
		out[fmt.Sprintln(what...)] = err
	}
	for _, m := range beyond(r.s.Members) {
		tell(r.a.Lose(m), nil, "Lose", m)
	}
	for _, stripe := range beyond(r.s.All()) {
		for _, chunk := range []int{math.MinInt, -1, 0, 1, r.s.Members - 2, r.s.Members - 1} {
			b, err := r.a.Chunk(stripe, chunk)
			tell(err, b, "Chunk", stripe, chunk)
		}
		tell(r.a.Put(stripe, good), nil, "Put", stripe)
		tell(r.a.Put(stripe, nil), nil, "Put", stripe, "nil")
		tell(r.a.Mend(stripe), nil, "Mend", stripe)
	}
	for _, chunk := range beyond(r.s.Members - 1) {
		for _, stripe := range []int{0, 1, r.s.All() - 1} {
			b, err := r.a.Chunk(stripe, chunk)
			tell(err, b, "Chunk", stripe, chunk)
		}
	}
	for _, l := range [][][]byte{nil, {}, good[:1], good[1:], append(chunksOf(r.s, 1), block), append(chunksOf(r.s, 1), good...), append(chunksOf(r.s, 1), nil)} {
		tell(r.a.Put(0, l), nil, "Put", len(l), "chunks")
	}
	for _, b := range noBlocks(r.s) {
		for k := range good {
			l := slices.Clone(good)
			l[k] = b
			tell(r.a.Put(r.s.All()-1, l), nil, "Put: chunk", k, b)
		}
		for _, i := range []int{-1, 0, 1, r.s.Sectors() - 1, r.s.Sectors()} {
			tell(r.a.PutSame(i, b), nil, "PutSame", i, b)
		}
		tell(r.a.Finish(b), nil, "Finish", b)
	}
	for _, i := range beyond(r.s.Sectors()) {
		b, err := r.a.Same(i)
		tell(err, b, "Same", i)
		tell(r.a.PutSame(i, block), nil, "PutSame", i)
	}
	return out
}
