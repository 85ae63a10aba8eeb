package nv

import (
	"bytes"
	"math"
	"math/rand"
	"slices"
	"testing"

	"drystone/api"
	"drystone/geom"
	"drystone/power"
)

// greatest is the greatest number of a record or a stripe.
const greatest = math.MaxUint64

// roomy is the root of a memory that takes so many records, with another value in each field.
func roomy(records int) Root {
	return Root{
		Shape:   geom.Shape{Members: 4, Block: 64, Segments: 5, Stripes: 3, Nv: records, Logical: 6},
		Gen:     7,
		Durable: 8,
		Stale:   2,
	}
}

// made returns a memory with room for so many records, of which some are there, and its power.
func made(t *testing.T, room, records int) (*Nv, *power.Power) {
	t.Helper()
	p := power.New(-1)
	n := New(p)
	n.Set(roomy(room))
	for i := range records {
		mustAppend(t, n, Write, 10*i, []byte{byte(i), 99})
	}
	return n, p
}

// alike reports whether two records are the same; whether no bytes are nil or empty does not matter.
func alike(a, b Record) bool {
	return a.Seq == b.Seq && a.Kind == b.Kind && a.Lba == b.Lba && bytes.Equal(a.Data, b.Data)
}

// mustHold checks that the memory has these records and this root, which is no operation to ask.
func mustHold(t *testing.T, n *Nv, records []Record, root Root) {
	t.Helper()
	before := n.power.Used()
	if got := n.Records(); !slices.EqualFunc(got, records, alike) {
		t.Errorf("Records = %v, not %v", got, records)
	}
	if got := n.Len(); got != len(records) {
		t.Errorf("Len = %d, not %d", got, len(records))
	}
	if got := n.Root(); got != root {
		t.Errorf("Root = %+v, not %+v", got, root)
	}
	if done := n.power.Used() - before; done != 0 {
		t.Errorf("Records, Len and Root are %d operations", done)
	}
}

// mustSeqs checks which numbers the records have.
func mustSeqs(t *testing.T, n *Nv, want ...uint64) {
	t.Helper()
	var got []uint64
	for _, r := range n.Records() {
		got = append(got, r.Seq)
	}
	if !slices.Equal(got, want) || n.Len() != len(want) {
		t.Errorf("the records are %v (%d of them), not %v", got, n.Len(), want)
	}
}

// mustAppend adds a record, which must be one operation without an error.
func mustAppend(t *testing.T, n *Nv, k Kind, lba int, data []byte) {
	t.Helper()
	before := n.power.Used()
	if err := n.Append(k, lba, data); err != api.OK {
		t.Errorf("Append(%d, %d, %v) = %d", k, lba, data, err)
	}
	if done := n.power.Used() - before; done != 1 {
		t.Errorf("Append(%d, %d, %v) is %d operations", k, lba, data, done)
	}
}

// mustRefuse checks that no record is added, which is no operation and changes nothing.
func mustRefuse(t *testing.T, n *Nv) {
	t.Helper()
	before, records, root := n.power.Used(), n.Records(), n.Root()
	for _, data := range [][]byte{nil, {}, {1, 2}} {
		if err := n.Append(Write, 3, data); err != api.ErrFull {
			t.Errorf("with %d records of %d, Append = %d", len(records), root.Shape.Nv, err)
		}
	}
	if done := n.power.Used() - before; done != 0 {
		t.Errorf("three Appends to a full memory are %d operations", done)
	}
	mustHold(t, n, records, root)
}

// mustCommit commits, which must be one operation.
func mustCommit(t *testing.T, n *Nv, durable, upTo uint64) {
	t.Helper()
	before := n.power.Used()
	n.Commit(durable, upTo)
	if done := n.power.Used() - before; done != 1 {
		t.Errorf("Commit(%d, %d) is %d operations", durable, upTo, done)
	}
}

// mustSet sets the root, which must be one operation.
func mustSet(t *testing.T, n *Nv, r Root) {
	t.Helper()
	before := n.power.Used()
	n.Set(r)
	if done := n.power.Used() - before; done != 1 {
		t.Errorf("Set(%+v) is %d operations", r, done)
	}
}

// P7.1, P7.2: the document's example.
func TestExample(t *testing.T) {
	n := New(power.New(-1))
	mustSet(t, n, roomy(1))
	mustAppend(t, n, Write, 0, []byte{1})
	mustRefuse(t, n)
	mustCommit(t, n, 1, 0)
	mustRefuse(t, n)
	mustCommit(t, n, 1, 1)
	mustAppend(t, n, Write, 0, []byte{2})
	mustRefuse(t, n)
	mustSeqs(t, n, 2)
}

// The kinds are numbered in the order in which the chapter lists them.
func TestKinds(t *testing.T) {
	for want, k := range []Kind{None, Write, Trim, Move} {
		if int(k) != want {
			t.Errorf("kind %d is %d", want, k)
		}
	}
}

// P7.1: a new memory has no records and a root of noughts, except that Stale is -1; making it is no operation, even where none may be done.
func TestNew(t *testing.T) {
	for _, limit := range []int{-1, 0, 1} {
		p := power.New(limit)
		n := New(p)
		mustHold(t, n, nil, Root{Shape: geom.Shape{}, Gen: 0, Durable: 0, Stale: -1})
		if p.Used() != 0 {
			t.Errorf("limit %d: New is %d operations", limit, p.Used())
		}
	}
}

// P7.1: a new memory takes no record, as the Nv of its root is 0, and the power does not go there, as this is no operation.
func TestAppendNew(t *testing.T) {
	for _, limit := range []int{-1, 0, 1} {
		n := New(power.New(limit))
		mustRefuse(t, n)
		mustRefuse(t, n)
		mustHold(t, n, nil, Root{Stale: -1})
	}
}

// P7.1: exactly as many records are taken as the Nv of the root's shape says; the other fields of the shape, which need not be valid, do not count.
func TestAppendUpToNv(t *testing.T) {
	for _, room := range []int{math.MinInt, -256, -2, -1, 0, 1, 2, 3, api.MaxNv - 1, api.MaxNv, api.MaxNv + 1, 3000} {
		for _, root := range []Root{roomy(room), {Shape: geom.Shape{Nv: room}}} {
			n := New(power.New(-1))
			mustSet(t, n, root)
			var want []Record
			for i := range max(room, 0) {
				mustAppend(t, n, Trim, i, nil)
				want = append(want, Record{Seq: uint64(i + 1), Kind: Trim, Lba: i})
				if got := n.Len(); got != i+1 {
					t.Errorf("Len = %d after %d Appends", got, i+1)
				}
			}
			mustRefuse(t, n)
			mustHold(t, n, want, root)
		}
	}
}

// P7.1: a great Nv is no more than a bound: nothing is made for it ahead.
func TestAppendGreatNv(t *testing.T) {
	for _, room := range []int{1 << 40, math.MaxInt} {
		n, _ := made(t, room, 5)
		mustSeqs(t, n, 1, 2, 3, 4, 5)
	}
}

// P7.1, P7.2: where Set has made Nv less than there are records, or negative, the records stay and no more are taken, until there are fewer, or Nv is greater again.
func TestAppendAfterSet(t *testing.T) {
	for _, less := range []int{math.MinInt, -1, 0, 1, 2, 3} {
		n, _ := made(t, 3, 3)
		mustSet(t, n, roomy(less))
		mustSeqs(t, n, 1, 2, 3)
		mustRefuse(t, n)
		mustSet(t, n, roomy(4))
		mustAppend(t, n, Move, 1, []byte{4})
		mustRefuse(t, n)
		mustSeqs(t, n, 1, 2, 3, 4)
	}
	n, _ := made(t, 4, 4)
	mustSet(t, n, roomy(2))
	for upTo := range uint64(3) {
		mustCommit(t, n, 1, upTo)
		mustRefuse(t, n)
	}
	mustCommit(t, n, 1, 3)
	mustAppend(t, n, Write, 1, nil)
	mustRefuse(t, n)
	mustSeqs(t, n, 4, 5)
	mustCommit(t, n, 1, greatest)
	mustSet(t, n, roomy(-1))
	mustRefuse(t, n)
	mustSet(t, n, Root{})
	mustRefuse(t, n)
}

// P7.1: an Append to a full memory is no operation: it neither counts, nor takes a number, nor does the power go at it.
func TestAppendFullIsNoOperation(t *testing.T) {
	n, p := made(t, 2, 2)
	p.Limit(0)
	for range 5 {
		mustRefuse(t, n)
	}
	p.Limit(-1)
	mustCommit(t, n, 8, 2)
	mustAppend(t, n, Write, 1, nil)
	mustSeqs(t, n, 3)
}

// P7.1: records are kept in the order in which they were added, each as it was given: of every kind and of other numbers, of any block, with any bytes or none.
func TestAppendKeepsWhatIsGiven(t *testing.T) {
	kinds := []Kind{None, Write, Trim, Move, Move + 1, -1, 255, 256, math.MinInt, math.MaxInt}
	lbas := []int{0, 1, -1, 5, 1 << 32, math.MinInt, math.MaxInt}
	datas := [][]byte{nil, {}, {0}, {0, 0, 0}, {1, 2, 3}, bytes.Repeat([]byte{0xA5}, 512), make([]byte, 70000)}
	root := roomy(len(kinds) * len(lbas) * len(datas))
	n := New(power.New(-1))
	mustSet(t, n, root)
	var want []Record
	for _, k := range kinds {
		for _, lba := range lbas {
			for _, data := range datas {
				mustAppend(t, n, k, lba, data)
				want = append(want, Record{Seq: uint64(len(want) + 1), Kind: k, Lba: lba, Data: data})
			}
		}
	}
	mustHold(t, n, want, root)
	mustRefuse(t, n)
}

// P7.1: records of one block, even equal ones, are kept side by side.
func TestAppendSameBlock(t *testing.T) {
	n, _ := made(t, 9, 0)
	for range 3 {
		mustAppend(t, n, Write, 4, []byte{1})
	}
	mustHold(t, n, []Record{{1, Write, 4, []byte{1}}, {2, Write, 4, []byte{1}}, {3, Write, 4, []byte{1}}}, roomy(9))
}

// P7.1, P7.2: no number comes twice, whatever was removed: none, the first ones, all of them (also the last one), or all while there are none.
func TestSeqComesOnce(t *testing.T) {
	for _, c := range []struct {
		upTo uint64
		want []uint64
	}{
		{0, []uint64{1, 2, 3, 4, 5}},
		{1, []uint64{2, 3, 4, 5}},
		{2, []uint64{3, 4, 5}},
		{3, []uint64{4, 5}},
		{4, []uint64{4, 5}},
		{100, []uint64{4, 5}},
		{greatest, []uint64{4, 5}},
	} {
		n, _ := made(t, 9, 3)
		mustCommit(t, n, 1, c.upTo)
		mustAppend(t, n, Write, 1, nil)
		mustAppend(t, n, Trim, 2, nil)
		mustSeqs(t, n, c.want...)
	}
	n, _ := made(t, 1, 0)
	for i := range uint64(20) {
		mustAppend(t, n, Write, 1, nil)
		mustSeqs(t, n, i+1)
		mustCommit(t, n, 1, i+1)
		mustCommit(t, n, 1, greatest)
		mustSeqs(t, n)
	}
}

// P7.1: the numbers do not hang on the root: neither Set nor a Durable changes which one is the next.
func TestSeqApartFromRoot(t *testing.T) {
	n, _ := made(t, 9, 2)
	mustSet(t, n, Root{Shape: geom.Shape{Nv: 9}, Gen: 50, Durable: 60, Stale: 0})
	mustAppend(t, n, Write, 1, nil)
	mustCommit(t, n, greatest, 1)
	mustAppend(t, n, Write, 1, nil)
	mustSet(t, n, Root{Shape: geom.Shape{Nv: 9}})
	mustAppend(t, n, Write, 1, nil)
	mustSeqs(t, n, 2, 3, 4, 5)
}

// P7.2: Commit removes the records up to a number, that one among them: below the first one, at each of them, above the last one, 0 and the greatest.
func TestCommitRemoves(t *testing.T) {
	for _, c := range []struct {
		upTo uint64
		want []uint64
	}{
		{0, []uint64{3, 4, 5, 6}},
		{1, []uint64{3, 4, 5, 6}},
		{2, []uint64{3, 4, 5, 6}},
		{3, []uint64{4, 5, 6}},
		{4, []uint64{5, 6}},
		{5, []uint64{6}},
		{6, nil},
		{7, nil},
		{1 << 32, nil},
		{1<<32 + 1, nil},
		{1 << 63, nil},
		{greatest - 1, nil},
		{greatest, nil},
	} {
		n, _ := made(t, 9, 6)
		mustCommit(t, n, 1, 2)
		mustSeqs(t, n, 3, 4, 5, 6)
		mustCommit(t, n, 9, c.upTo)
		var want []Record
		for _, seq := range c.want {
			i := int(seq) - 1
			want = append(want, Record{Seq: seq, Kind: Write, Lba: 10 * i, Data: []byte{byte(i), 99}})
		}
		root := roomy(9)
		root.Durable = 9
		mustHold(t, n, want, root)
		mustCommit(t, n, 9, c.upTo)
		mustHold(t, n, want, root)
	}
}

// P7.2: Commit goes by the number of a record alone, whatever its kind and its block.
func TestCommitAnyKind(t *testing.T) {
	n, _ := made(t, 9, 0)
	for i, k := range []Kind{Move, None, Trim, Write, -1, 77} {
		mustAppend(t, n, k, 100-i, nil)
	}
	mustCommit(t, n, 8, 4)
	mustHold(t, n, []Record{{5, -1, 96, nil}, {6, 77, 95, nil}}, roomy(9))
}

// P7.2: Commit makes room for as many records as it removes.
func TestCommitMakesRoom(t *testing.T) {
	n, _ := made(t, 4, 4)
	mustRefuse(t, n)
	mustCommit(t, n, 1, 3)
	for range 3 {
		mustAppend(t, n, Write, 0, nil)
	}
	mustRefuse(t, n)
	mustSeqs(t, n, 4, 5, 6, 7)
}

// P7.2: of the root Commit sets Durable alone, to any number (also a lesser one or the same), where it removes records and where it removes none.
func TestCommitSetsDurableAlone(t *testing.T) {
	for _, durable := range []uint64{0, 1, 7, 8, 9, 1 << 40, greatest} {
		for _, upTo := range []uint64{0, 1, 2, greatest} {
			for records := range 3 {
				n, _ := made(t, 5, records)
				mustCommit(t, n, durable, upTo)
				want := roomy(5)
				want.Durable = durable
				if got := n.Root(); got != want {
					t.Errorf("after Commit(%d, %d) of %d records the root is %+v", durable, upTo, records, got)
				}
			}
		}
		n := New(power.New(-1))
		mustCommit(t, n, durable, durable)
		mustHold(t, n, nil, Root{Durable: durable, Stale: -1})
	}
}

// P7.2: Set sets the whole root, to any values, and leaves the records as they are.
func TestSet(t *testing.T) {
	n, _ := made(t, 3, 2)
	records := n.Records()
	for _, r := range []Root{
		{},
		{Stale: -1},
		{Stale: math.MinInt},
		{Stale: math.MaxInt, Gen: greatest, Durable: greatest},
		{Gen: 1},
		{Durable: 1},
		{Shape: geom.Shape{Members: 1, Block: 2, Segments: 3, Stripes: 4, Nv: 5, Logical: 6}},
		{Shape: geom.Shape{Members: -1, Block: -2, Segments: -3, Stripes: -4, Nv: -5, Logical: -6}},
		roomy(3),
		roomy(3),
		roomy(1),
	} {
		mustSet(t, n, r)
		mustHold(t, n, records, r)
	}
}

// P7.1, P7.2: Append, Set and Commit are one operation each, all others none; with no operation left, the latter go on.
func TestOperations(t *testing.T) {
	p := power.New(3)
	n := New(p)
	n.Set(roomy(1))
	n.Append(Write, 0, nil)
	n.Append(Write, 0, nil)
	n.Commit(1, 1)
	if p.Used() != 3 {
		t.Errorf("%d operations, not 3", p.Used())
	}
	gone := power.Run(func() {
		New(p)
		n.Records()
		n.Len()
		n.Root()
	})
	if gone || p.Used() != 3 {
		t.Errorf("gone %t, %d operations, not 3", gone, p.Used())
	}
}

// P7.1, P7.2, P3.1: of an operation at which the power goes nothing is done: no record, no number, no root; nor is it counted.
func TestPowerGoes(t *testing.T) {
	for name, do := range map[string]func(*Nv){
		"Append":                    func(n *Nv) { n.Append(Write, 5, []byte{1}) },
		"Set":                       func(n *Nv) { n.Set(Root{Shape: geom.Shape{Nv: 1}, Gen: 1, Durable: 2, Stale: 3}) },
		"Commit of none":            func(n *Nv) { n.Commit(99, 0) },
		"Commit of one":             func(n *Nv) { n.Commit(99, 1) },
		"Commit of all":             func(n *Nv) { n.Commit(99, greatest) },
		"Commit of the same stripe": func(n *Nv) { n.Commit(8, 1) },
	} {
		n, p := made(t, 5, 3)
		records, root, used := n.Records(), n.Root(), p.Used()
		p.Limit(0)
		for range 3 {
			past := false
			if !power.Run(func() { do(n); past = true }) || past {
				t.Errorf("%s: the power did not go", name)
			}
			if p.Used() != used {
				t.Errorf("%s: %d operations, not %d", name, p.Used(), used)
			}
			mustHold(t, n, records, root)
		}
		p.Limit(-1)
		mustAppend(t, n, Trim, 6, nil)
		mustHold(t, n, append(records, Record{4, Trim, 6, nil}), root)
	}
}

// P7.1: the first record gets the number 1 even if the power went at Appends before it.
func TestPowerGoesAtFirstAppend(t *testing.T) {
	n, p := made(t, 2, 0)
	p.Limit(0)
	for range 4 {
		if !power.Run(func() { n.Append(Write, 1, nil) }) {
			t.Error("the power did not go")
		}
	}
	p.Limit(1)
	mustAppend(t, n, Write, 1, nil)
	mustSeqs(t, n, 1)
}

// P7.2: what was done stays when the power goes afterwards: the memory is non-volatile.
func TestStays(t *testing.T) {
	p := power.New(3)
	n := New(p)
	gone := power.Run(func() {
		n.Set(roomy(4))
		n.Append(Write, 1, []byte{1})
		n.Append(Trim, 2, nil)
		n.Commit(9, 1)
	})
	if !gone {
		t.Error("the power did not go")
	}
	mustHold(t, n, []Record{{1, Write, 1, []byte{1}}, {2, Trim, 2, nil}}, roomy(4))
}

// R5: the bytes that are given are neither changed, nor their spare capacity, nor kept: changing them behind Append changes nothing in the memory.
func TestAppendKeepsACopy(t *testing.T) {
	n, p := made(t, 5, 0)
	whole := []byte{1, 2, 3, 4, 5, 6}
	data := whole[:3]
	mustAppend(t, n, Write, 0, data)
	mustAppend(t, n, Write, 1, data[:0])
	mustAppend(t, n, Write, 2, data[1:2])
	want := []Record{{1, Write, 0, []byte{1, 2, 3}}, {2, Write, 1, nil}, {3, Write, 2, []byte{2}}}
	if !bytes.Equal(whole, []byte{1, 2, 3, 4, 5, 6}) {
		t.Errorf("the bytes that were given became %v", whole)
	}
	clear(whole)
	mustHold(t, n, want, roomy(5))
	for i := range whole {
		whole[i] = 0xEE
	}
	mustCommit(t, n, 8, 1)
	mustHold(t, n, want[1:], roomy(5))
	p.Limit(0)
	power.Run(func() { n.Append(Write, 3, whole) })
	mustHold(t, n, want[1:], roomy(5))
	if !bytes.Equal(whole, bytes.Repeat([]byte{0xEE}, 6)) {
		t.Errorf("the bytes that were given became %v", whole)
	}
}

// R5: the records that are returned are new, list and bytes: changing them, or their spare capacity, changes nothing in the memory or in another result.
func TestRecordsAreNew(t *testing.T) {
	n, _ := made(t, 6, 3)
	want := []Record{{1, Write, 0, []byte{0, 99}}, {2, Write, 10, []byte{1, 99}}, {3, Write, 20, []byte{2, 99}}}
	first, second := n.Records(), n.Records()
	for _, r := range first {
		data := r.Data[:cap(r.Data)]
		for i := range data {
			data[i] = 0xEE
		}
	}
	all := first[:cap(first)]
	for i := range all {
		all[i] = Record{Seq: 77, Kind: Trim, Lba: 78, Data: []byte{79}}
	}
	_ = append(first[:0], Record{Seq: 80})
	if !slices.EqualFunc(second, want, alike) {
		t.Errorf("a second result changed with the first one: %v", second)
	}
	mustHold(t, n, want, roomy(6))
	mustAppend(t, n, Trim, 5, nil)
	mustHold(t, n, append(want, Record{4, Trim, 5, nil}), roomy(6))
}

// R5: what was returned stays as it was when the memory changes.
func TestRecordsStay(t *testing.T) {
	n, _ := made(t, 6, 4)
	list, root := n.Records(), n.Root()
	want := n.Records()
	mustCommit(t, n, 50, 2)
	mustAppend(t, n, Trim, 7, []byte{8})
	mustAppend(t, n, Move, 9, []byte{10, 11})
	mustSet(t, n, Root{})
	mustCommit(t, n, 51, greatest)
	if !slices.EqualFunc(list, want, alike) || root != roomy(6) {
		t.Errorf("%v and %+v changed with the memory", list, root)
	}
}

// R5: a root that is returned or was given is the caller's to change.
func TestRootIsACopy(t *testing.T) {
	n, _ := made(t, 3, 1)
	r := n.Root()
	r.Gen, r.Durable, r.Stale, r.Shape.Nv = 90, 91, 92, 93
	mustSeqs(t, n, 1)
	if got := n.Root(); got != roomy(3) {
		t.Errorf("the root became %+v with what was returned", got)
	}
	given := roomy(2)
	mustSet(t, n, given)
	given.Shape.Nv, given.Stale = 0, 1
	if got := n.Root(); got != roomy(2) {
		t.Errorf("the root became %+v with what was given", got)
	}
}

// R6: two memories with one power share its operations and nothing else.
func TestMemoriesApart(t *testing.T) {
	p := power.New(-1)
	one, two := New(p), New(p)
	mustSet(t, one, roomy(2))
	mustRefuse(t, two)
	mustAppend(t, one, Write, 1, []byte{1})
	mustSet(t, two, roomy(1))
	mustAppend(t, two, Trim, 2, nil)
	mustAppend(t, one, Move, 3, []byte{3})
	mustCommit(t, two, 30, greatest)
	mustHold(t, one, []Record{{1, Write, 1, []byte{1}}, {2, Move, 3, []byte{3}}}, roomy(2))
	root := roomy(1)
	root.Durable = 30
	mustHold(t, two, nil, root)
	if p.Used() != 6 {
		t.Errorf("%d operations, not 6", p.Used())
	}
}

// plain is an independent statement of a memory: every record that was ever added is kept, with whether it is removed.
type plain struct {
	ever    []Record
	removed []bool
	root    Root
	used    int
}

func (m *plain) records() []Record {
	var l []Record
	for i, r := range m.ever {
		if !m.removed[i] {
			l = append(l, r)
		}
	}
	return l
}

func (m *plain) append(r Record) {
	r.Seq = uint64(len(m.ever)) + 1
	m.ever = append(m.ever, r)
	m.removed = append(m.removed, false)
}

func (m *plain) commit(durable, upTo uint64) {
	m.root.Durable = durable
	for i, r := range m.ever {
		if r.Seq <= upTo {
			m.removed[i] = true
		}
	}
}

// follow does an operation on the plain memory, unless the power went at it on the other one, which must be so if and only if there was none.
func (m *plain) follow(t *testing.T, on, gone bool, operation func()) {
	t.Helper()
	if gone == on {
		t.Fatalf("there was power: %t; it went: %t", on, gone)
	}
	if on {
		operation()
		m.used++
	}
}

// P7.1, P7.2: long random runs, with the power going now and then, agree with the plain statement after each step.
func TestRandom(t *testing.T) {
	r := rand.New(rand.NewSource(7))
	for range 60 {
		p := power.New(-1)
		n, m := New(p), &plain{root: Root{Stale: -1}}
		for range 150 {
			on := r.Intn(5) != 0
			p.Limit(0)
			if on {
				p.Limit(1)
			}
			switch r.Intn(8) {
			case 0:
				root := roomy(r.Intn(14) - 2)
				root.Gen, root.Stale = uint64(r.Intn(9)), r.Intn(5)-1
				m.follow(t, on, power.Run(func() { n.Set(root) }), func() { m.root = root })
			case 1, 2:
				durable, upTo := r.Uint64(), uint64(max(0, len(m.ever)-r.Intn(12)+2))
				m.follow(t, on, power.Run(func() { n.Commit(durable, upTo) }), func() { m.commit(durable, upTo) })
			default:
				rec := Record{Kind: Kind(r.Intn(6) - 1), Lba: r.Intn(9) - 1, Data: make([]byte, r.Intn(5))}
				r.Read(rec.Data)
				var err api.Errno
				full := len(m.records()) >= m.root.Shape.Nv
				gone := power.Run(func() { err = n.Append(rec.Kind, rec.Lba, rec.Data) })
				if full != (err == api.ErrFull) || !full && err != api.OK {
					t.Fatalf("Append = %d with %d records of %d", err, n.Len(), n.Root().Shape.Nv)
				}
				if full && gone {
					t.Fatal("the power went at an Append to a full memory")
				}
				if !full {
					m.follow(t, on, gone, func() { m.append(rec) })
				}
			}
			mustHold(t, n, m.records(), m.root)
			if p.Used() != m.used {
				t.Fatalf("%d operations, not %d", p.Used(), m.used)
			}
		}
	}
}
