package disk

import (
	"bytes"
	"math"
	"math/rand"
	"slices"
	"testing"

	"drystone/api"
	"drystone/power"
)

// all and none are what is kept of the waiting sectors by Cycle.
const (
	all  = math.MaxUint64
	none = 0
)

// counted makes n bytes that begin with first, of which those that are near each other differ.
func counted(first byte, n int) []byte {
	b := make([]byte, n)
	for i := range b {
		b[i] = first + byte(i)
	}
	return b
}

// mustRead checks that sector i is read as want, by one operation.
func mustRead(t *testing.T, d *Disk, i int, want []byte) {
	t.Helper()
	before := d.power.Used()
	if got, err := d.Read(i); err != api.OK || !bytes.Equal(got, want) {
		t.Errorf("Read(%d) = %v, %d, not %v", i, got, err, want)
	}
	if done := d.power.Used() - before; done != 1 {
		t.Errorf("Read(%d) is %d operations", i, done)
	}
}

// mustWrite writes a sector, which must be one operation without an error.
func mustWrite(t *testing.T, d *Disk, i int, b []byte) {
	t.Helper()
	before := d.power.Used()
	if err := d.Write(i, b); err != api.OK {
		t.Errorf("Write(%d, %v) = %d", i, b, err)
	}
	if done := d.power.Used() - before; done != 1 {
		t.Errorf("Write(%d, %v) is %d operations", i, b, done)
	}
}

// mustFlush flushes, which must be one operation without an error, after which nothing waits.
func mustFlush(t *testing.T, d *Disk) {
	t.Helper()
	before := d.power.Used()
	if err := d.Flush(); err != api.OK {
		t.Errorf("Flush = %d", err)
	}
	if done := d.power.Used() - before; done != 1 {
		t.Errorf("Flush is %d operations", done)
	}
	mustWait(t, d)
}

// mustWait checks which sectors wait, without an operation.
func mustWait(t *testing.T, d *Disk, want ...int) {
	t.Helper()
	before := d.power.Used()
	if got := d.Waiting(); !slices.Equal(got, want) {
		t.Errorf("%v wait, not %v", got, want)
	}
	if done := d.power.Used() - before; done != 0 {
		t.Errorf("Waiting is %d operations", done)
	}
}

// mustCycle cycles, which must not be an operation, and after which nothing waits.
func mustCycle(t *testing.T, d *Disk, keep uint64) {
	t.Helper()
	before := d.power.Used()
	d.Cycle(keep)
	if done := d.power.Used() - before; done != 0 {
		t.Errorf("Cycle(%x) is %d operations", keep, done)
	}
	mustWait(t, d)
}

// mustRefuse checks that a disk that has failed returns ErrDead of every operation, which is counted, and nothing beside it.
func mustRefuse(t *testing.T, d *Disk, i int, b []byte) {
	t.Helper()
	before, waiting, writes := d.power.Used(), d.Waiting(), d.Writes(i)
	if got, err := d.Read(i); err != api.ErrDead || len(got) != 0 {
		t.Errorf("Read(%d) = %v, %d", i, got, err)
	}
	if err := d.Write(i, b); err != api.ErrDead {
		t.Errorf("Write(%d, %v) = %d", i, b, err)
	}
	if err := d.Flush(); err != api.ErrDead {
		t.Errorf("Flush = %d", err)
	}
	if done := d.power.Used() - before; done != 3 {
		t.Errorf("three operations were counted as %d", done)
	}
	if !d.Dead() {
		t.Error("the disk is not Dead")
	}
	mustWait(t, d, waiting...)
	if got := d.Writes(i); got != writes {
		t.Errorf("Writes(%d) went from %d to %d", i, writes, got)
	}
}

// P4.2: the document's example.
func TestExample(t *testing.T) {
	d := New(power.New(-1), 3, 2)
	mustWrite(t, d, 0, []byte{1, 2})
	mustWrite(t, d, 2, []byte{3, 4})
	mustCycle(t, d, 2)
	mustRead(t, d, 2, []byte{3, 4})
	mustRead(t, d, 0, []byte{0, 0})
	mustCycle(t, d, none)
	mustRead(t, d, 2, []byte{3, 4})
}

// P4.1: a new disk is blank: its sectors are zeros of their size, nothing waits, nothing was written, and it works.
func TestNew(t *testing.T) {
	for _, sectors := range []int{1, 2, 65} {
		for _, size := range []int{1, 2, 32, 512} {
			p := power.New(-1)
			d := New(p, sectors, size)
			if p.Used() != 0 || d.Sectors() != sectors || d.Dead() {
				t.Errorf("New(%d, %d): %d operations, %d sectors, dead %t", sectors, size, p.Used(), d.Sectors(), d.Dead())
			}
			mustWait(t, d)
			for i := range sectors {
				mustRead(t, d, i, make([]byte, size))
				if n := d.Writes(i); n != 0 {
					t.Errorf("Writes(%d) = %d", i, n)
				}
			}
			mustWrite(t, d, sectors-1, counted(1, size))
			mustRead(t, d, sectors-1, counted(1, size))
			mustFlush(t, d)
		}
	}
}

// P4.1: a disk of no sectors, or of fewer, has none that could be read or written, and can be flushed.
func TestNewWithoutSectors(t *testing.T) {
	for _, sectors := range []int{0, -1, -3, math.MinInt} {
		for _, size := range []int{4, 0, -4, math.MinInt, math.MaxInt} {
			p := power.New(-1)
			d := New(p, sectors, size)
			if d.Sectors() != 0 || d.Dead() {
				t.Errorf("New(%d, %d): %d sectors, dead %t", sectors, size, d.Sectors(), d.Dead())
			}
			for _, i := range []int{math.MinInt, sectors, -1, 0, 1, math.MaxInt} {
				got, err := d.Read(i)
				if err != api.ErrArg || len(got) != 0 || d.Write(i, make([]byte, 4)) != api.ErrArg || d.Write(i, nil) != api.ErrArg || d.Writes(i) != 0 {
					t.Errorf("New(%d, %d) has a sector %d", sectors, size, i)
				}
			}
			mustFlush(t, d)
			mustCycle(t, d, all)
			d.Blank()
			if d.Sectors() != 0 || p.Used() != 1 {
				t.Errorf("%d sectors, %d operations", d.Sectors(), p.Used())
			}
		}
	}
}

// P4.1, R4: a sector of no bytes, or of fewer, is empty, and waits as others do when it is written.
func TestNewWithoutSize(t *testing.T) {
	for _, size := range []int{0, -1, -2, math.MinInt} {
		p := power.New(-1)
		d := New(p, 3, size)
		if d.Sectors() != 3 {
			t.Errorf("New(3, %d) has %d sectors", size, d.Sectors())
		}
		if err := d.Write(0, []byte{1}); err != api.ErrArg || p.Used() != 0 {
			t.Errorf("New(3, %d): one byte was written: %d", size, err)
		}
		mustRead(t, d, 0, nil)
		mustWrite(t, d, 2, nil)
		mustWrite(t, d, 1, []byte{})
		mustWait(t, d, 1, 2)
		mustRead(t, d, 1, nil)
		if d.Writes(0) != 0 || d.Writes(1) != 1 || d.Writes(2) != 1 {
			t.Errorf("Writes = %d, %d, %d", d.Writes(0), d.Writes(1), d.Writes(2))
		}
		mustFlush(t, d)
		mustRead(t, d, 2, nil)
	}
}

// P1: a disk may have more sectors than could be stored, since only those that were written are.
func TestNewGreat(t *testing.T) {
	for _, sectors := range []int{1 << 40, math.MaxInt - 1, math.MaxInt} {
		d := New(power.New(-1), sectors, 2)
		if d.Sectors() != sectors {
			t.Errorf("%d sectors instead of %d", d.Sectors(), sectors)
		}
		mustRead(t, d, sectors-1, []byte{0, 0})
		mustWrite(t, d, sectors-1, []byte{1, 2})
		mustWrite(t, d, 0, []byte{3, 4})
		mustWait(t, d, 0, sectors-1)
		mustCycle(t, d, 2)
		mustRead(t, d, sectors-1, []byte{1, 2})
		mustRead(t, d, 0, []byte{0, 0})
		if d.Writes(sectors-1) != 1 || d.Writes(sectors) != 0 {
			t.Errorf("Writes = %d, %d", d.Writes(sectors-1), d.Writes(sectors))
		}
	}
}

// P4.1, R2: ErrArg is no operation: it is not counted, the power does not go at it, and a disk that has failed or is going to fail returns it, too.
func TestArg(t *testing.T) {
	const sectors, size = 3, 4
	block := counted(1, size)
	calls := []struct {
		i int
		b []byte
	}{
		{math.MinInt, block}, {-sectors, block}, {-1, block}, {sectors, block}, {sectors + 1, block}, {math.MaxInt, block},
		{0, nil}, {0, []byte{}}, {0, counted(1, 1)}, {1, counted(1, size-1)}, {2, counted(1, size+1)}, {0, counted(1, 2*size)},
		{-1, nil}, {sectors, counted(1, size+1)},
	}
	for name, prepare := range map[string]func(*Disk){
		"working":       func(*Disk) {},
		"failed":        func(d *Disk) { d.Fail() },
		"going to fail": func(d *Disk) { d.FailAt(0) },
	} {
		p := power.New(2)
		d := New(p, sectors, size)
		mustWrite(t, d, 1, counted(9, size))
		prepare(d)
		dead := d.Dead()
		p.Limit(0)
		for _, c := range calls {
			if err := d.Write(c.i, c.b); err != api.ErrArg {
				t.Errorf("%s: Write(%d, %v) = %d", name, c.i, c.b, err)
			}
			if c.i >= 0 && c.i < sectors {
				continue
			}
			if got, err := d.Read(c.i); err != api.ErrArg || len(got) != 0 {
				t.Errorf("%s: Read(%d) = %v, %d", name, c.i, got, err)
			}
		}
		if p.Used() != 1 || d.Dead() != dead {
			t.Errorf("%s: %d operations, dead %t", name, p.Used(), d.Dead())
		}
		mustWait(t, d, 1)
		for i := -1; i <= sectors; i++ {
			if got := d.Writes(i); (got == 1) != (i == 1) {
				t.Errorf("%s: Writes(%d) = %d", name, i, got)
			}
		}
	}
}

// P4.1: a read returns what was written last, waiting or durable, and zeros of a sector that was never written.
func TestRead(t *testing.T) {
	d := New(power.New(-1), 4, 3)
	mustWrite(t, d, 0, []byte{1, 2, 3})
	mustWrite(t, d, 1, []byte{4, 5, 6})
	mustFlush(t, d)
	mustWrite(t, d, 1, []byte{7, 8, 9})
	mustWrite(t, d, 2, []byte{10, 11, 12})
	mustWrite(t, d, 2, []byte{0, 13, 0})
	mustWait(t, d, 1, 2)
	for range 2 {
		mustRead(t, d, 0, []byte{1, 2, 3})
		mustRead(t, d, 1, []byte{7, 8, 9})
		mustRead(t, d, 2, []byte{0, 13, 0})
		mustRead(t, d, 3, []byte{0, 0, 0})
		mustFlush(t, d)
	}
	mustWrite(t, d, 0, []byte{0, 0, 0})
	mustRead(t, d, 0, []byte{0, 0, 0})
}

// P4.1: what was flushed is durable: no power loss takes it, nor what is written afterwards and lost.
func TestFlush(t *testing.T) {
	d := New(power.New(-1), 4, 1)
	mustWrite(t, d, 3, []byte{3})
	mustWrite(t, d, 1, []byte{1})
	mustFlush(t, d)
	mustCycle(t, d, none)
	mustWrite(t, d, 3, []byte{33})
	mustWrite(t, d, 2, []byte{2})
	mustCycle(t, d, none)
	for i, want := range []byte{0, 1, 0, 3} {
		mustRead(t, d, i, []byte{want})
	}
}

// P4.1: a flush with nothing waiting is an operation that changes nothing, on a blank disk and on a written one.
func TestFlushNothing(t *testing.T) {
	d := New(power.New(-1), 2, 1)
	mustFlush(t, d)
	mustRead(t, d, 0, []byte{0})
	mustWrite(t, d, 0, []byte{5})
	mustFlush(t, d)
	mustFlush(t, d)
	mustRead(t, d, 0, []byte{5})
	mustRead(t, d, 1, []byte{0})
	if d.Writes(0) != 1 || d.Writes(1) != 0 {
		t.Errorf("Writes = %d, %d", d.Writes(0), d.Writes(1))
	}
}

// P3.1, P4.1: the operation at which the power goes is not done and not counted, and the disk does not fail for it.
func TestPowerGoes(t *testing.T) {
	for name, do := range map[string]func(*Disk){
		"Read":  func(d *Disk) { d.Read(0) },
		"Write": func(d *Disk) { d.Write(0, []byte{9}) },
		"Flush": func(d *Disk) { d.Flush() },
	} {
		p := power.New(1)
		d := New(p, 2, 1)
		mustWrite(t, d, 0, []byte{1})
		d.FailAt(1)
		past := false
		if !power.Run(func() { do(d); past = true }) || past {
			t.Errorf("%s: the power did not go", name)
		}
		if p.Used() != 1 || d.Dead() || d.Writes(0) != 1 {
			t.Errorf("%s: %d operations, dead %t, Writes(0) = %d", name, p.Used(), d.Dead(), d.Writes(0))
		}
		mustWait(t, d, 0)
		p.Limit(-1)
		d.FailAt(-1)
		mustRead(t, d, 0, []byte{1})
		mustCycle(t, d, none)
		mustRead(t, d, 0, []byte{0})
	}
}

// P3.1, P4.1: the power goes at the operations of a disk that has failed, too.
func TestPowerGoesWhenDead(t *testing.T) {
	p := power.New(1)
	d := New(p, 1, 1)
	d.Fail()
	if d.Flush() != api.ErrDead || p.Used() != 1 {
		t.Errorf("%d operations", p.Used())
	}
	for name, do := range map[string]func(){
		"Read":  func() { d.Read(0) },
		"Write": func() { d.Write(0, []byte{9}) },
		"Flush": func() { d.Flush() },
	} {
		if !power.Run(do) || p.Used() != 1 {
			t.Errorf("%s: the power did not go, %d operations", name, p.Used())
		}
	}
}

// P4.2: each of the waiting sectors, counted in ascending order and not in the order of writing, becomes durable by its own bit.
func TestCycleBits(t *testing.T) {
	sectors := []int{7, 1, 9, 4}
	for keep := range uint64(1 << 6) {
		d := New(power.New(-1), 10, 1)
		for i := range 10 {
			mustWrite(t, d, i, []byte{100 + byte(i)})
		}
		mustFlush(t, d)
		for _, i := range sectors {
			mustWrite(t, d, i, []byte{200 + byte(i)})
		}
		mustWait(t, d, 1, 4, 7, 9)
		mustCycle(t, d, keep)
		want := counted(100, 10)
		for k, i := range []int{1, 4, 7, 9} {
			if keep&(1<<k) != 0 {
				want[i] += 100
			}
		}
		for i := range want {
			mustRead(t, d, i, want[i:i+1])
		}
		mustCycle(t, d, ^keep)
		for i := range want {
			mustRead(t, d, i, want[i:i+1])
		}
	}
}

// P4.2: a sector that was written twice waits once, as it was written last, and has what was durable before, not what waited before.
func TestCycleWrittenTwice(t *testing.T) {
	for _, flushed := range []bool{false, true} {
		for keep, want := range map[uint64]byte{none: 0, 1: 2, 2: 0, 3: 2, all: 2} {
			d := New(power.New(-1), 3, 1)
			if flushed {
				mustWrite(t, d, 1, []byte{5})
				mustFlush(t, d)
				if want == 0 {
					want = 5
				}
			}
			mustWrite(t, d, 1, []byte{1})
			mustWrite(t, d, 2, []byte{8})
			mustWrite(t, d, 1, []byte{2})
			mustWait(t, d, 1, 2)
			mustCycle(t, d, keep)
			mustRead(t, d, 1, []byte{want})
			mustRead(t, d, 2, []byte{byte(keep >> 1 & 1 * 8)})
		}
	}
}

// P4.2: behind the 64th waiting sector the bits begin again with the first one.
func TestCycleManyWaiting(t *testing.T) {
	const many = 200
	for _, keep := range []uint64{none, all, 1, 2, 1 << 63, 1 << 62, 0x8000000000000001, 0x123456789ABCDEF0} {
		d := New(power.New(-1), 2*many, 1)
		for k := many - 1; k >= 0; k-- {
			mustWrite(t, d, 2*k+1, []byte{byte(k + 1)})
		}
		if got := len(d.Waiting()); got != many {
			t.Fatalf("%d sectors wait", got)
		}
		mustCycle(t, d, keep)
		for k := range many {
			want := byte(0)
			if keep&(1<<(k%64)) != 0 {
				want = byte(k + 1)
			}
			mustRead(t, d, 2*k+1, []byte{want})
			mustRead(t, d, 2*k, []byte{0})
		}
	}
}

// P4.2: with all bits everything stays, with none nothing does, and what is written afterwards waits anew.
func TestCycleAllAndNone(t *testing.T) {
	d := New(power.New(-1), 3, 1)
	mustCycle(t, d, all)
	for i := range 3 {
		mustWrite(t, d, i, []byte{byte(i + 1)})
	}
	mustCycle(t, d, all)
	for i := range 3 {
		mustRead(t, d, i, []byte{byte(i + 1)})
		mustWrite(t, d, i, []byte{byte(i + 11)})
	}
	mustCycle(t, d, none)
	for i := range 3 {
		mustRead(t, d, i, []byte{byte(i + 1)})
	}
	mustWrite(t, d, 2, []byte{7})
	mustWait(t, d, 2)
	mustCycle(t, d, 1)
	mustRead(t, d, 2, []byte{7})
	if d.Writes(0) != 2 || d.Writes(2) != 3 {
		t.Errorf("Writes = %d, %d", d.Writes(0), d.Writes(2))
	}
}

// P4.2: the waiting sectors are told in ascending order, each once, whatever the order in which they were written.
func TestWaitingAscends(t *testing.T) {
	const sectors = 300
	d := New(power.New(-1), sectors, 1)
	var want []int
	for k := range sectors / 2 {
		i := k * 77 % sectors
		mustWrite(t, d, i, []byte{1})
		if !slices.Contains(want, i) {
			want = append(want, i)
		}
		mustWrite(t, d, want[0], []byte{2})
	}
	slices.Sort(want)
	for range 3 {
		mustWait(t, d, want...)
	}
	mustFlush(t, d)
	mustWrite(t, d, 5, []byte{1})
	mustWait(t, d, 5)
}

// P4.3: a disk that has failed has failed for good: every operation returns ErrDead, and is counted.
func TestFail(t *testing.T) {
	p := power.New(-1)
	d := New(p, 2, 1)
	mustWrite(t, d, 0, []byte{1})
	d.Fail()
	if !d.Dead() || p.Used() != 1 {
		t.Errorf("dead %t, %d operations", d.Dead(), p.Used())
	}
	mustRefuse(t, d, 0, []byte{2})
	mustRefuse(t, d, 1, []byte{2})
	for _, ops := range []int{-1, 0, math.MaxInt} {
		d.FailAt(ops)
		d.Fail()
		mustRefuse(t, d, 0, []byte{3})
	}
	mustWait(t, d, 0)
	mustCycle(t, d, all)
	mustRefuse(t, d, 0, []byte{4})
}

// P4.3: the disk fails at the first operation after which more than ops operations were done; the ones before it are done.
func TestFailAt(t *testing.T) {
	for name, do := range map[string]func(*Disk) api.Errno{
		"Read":  func(d *Disk) api.Errno { _, err := d.Read(0); return err },
		"Write": func(d *Disk) api.Errno { return d.Write(0, []byte{9}) },
		"Flush": func(d *Disk) api.Errno { return d.Flush() },
	} {
		for done := range 4 {
			for ops := range 8 {
				d := New(power.New(-1), 1, 1)
				for range done {
					mustWrite(t, d, 0, []byte{1})
				}
				d.FailAt(ops)
				if d.Dead() {
					t.Fatalf("%s: after %d operations FailAt(%d) has failed the disk without an operation", name, done, ops)
				}
				for k := done + 1; k <= ops; k++ {
					if err := do(d); err != api.OK || d.Dead() {
						t.Fatalf("%s: operation %d after FailAt(%d) = %d, dead %t", name, k, ops, err, d.Dead())
					}
				}
				writes := d.Writes(0)
				if err := do(d); err != api.ErrDead || !d.Dead() || d.Writes(0) != writes {
					t.Fatalf("%s: the operation behind %d = %d, dead %t", name, ops, err, d.Dead())
				}
				mustRefuse(t, d, 0, []byte{2})
			}
		}
	}
}

// P4.3: a write at which the disk fails leaves what waited, and a flush makes nothing durable.
func TestFailAtNotDone(t *testing.T) {
	p := power.New(-1)
	d := New(p, 1, 1)
	mustWrite(t, d, 0, []byte{1})
	d.FailAt(p.Used())
	if err := d.Write(0, []byte{2}); err != api.ErrDead {
		t.Errorf("Write = %d", err)
	}
	if got := d.waiting[0]; !bytes.Equal(got, []byte{1}) || d.Writes(0) != 1 {
		t.Errorf("%v waits, Writes(0) = %d", got, d.Writes(0))
	}
	if err := d.Flush(); err != api.ErrDead {
		t.Errorf("Flush = %d", err)
	}
	mustWait(t, d, 0)
}

// P4.3: a FailAt below nought has no such effect, and the greatest number is not reached.
func TestFailAtNever(t *testing.T) {
	for _, ops := range []int{-1, -2, math.MinInt, math.MaxInt} {
		d := New(power.New(-1), 1, 1)
		d.FailAt(ops)
		for range 1000 {
			mustWrite(t, d, 0, []byte{1})
			mustRead(t, d, 0, []byte{1})
			mustFlush(t, d)
		}
		if d.Dead() {
			t.Errorf("FailAt(%d) has failed the disk", ops)
		}
	}
}

// P4.3: of several FailAts the last one counts, whether it is later, earlier or below nought.
func TestFailAtLast(t *testing.T) {
	for _, c := range []struct {
		ops   []int
		works int // operations that are done, and then one more is not; below nought there is no such one
	}{
		{[]int{2, 5}, 5}, {[]int{5, 2}, 2}, {[]int{0, 3}, 3}, {[]int{3, 0}, 0}, {[]int{4, -1}, -1}, {[]int{0, -1}, -1},
		{[]int{-1, 4}, 4}, {[]int{1, math.MaxInt, 2}, 2}, {[]int{1, -1, math.MinInt}, -1}, {[]int{3, 3}, 3},
	} {
		d := New(power.New(-1), 1, 1)
		for _, ops := range c.ops {
			d.FailAt(ops)
		}
		if c.works < 0 {
			for range 100 {
				mustWrite(t, d, 0, []byte{1})
			}
			continue
		}
		for range c.works {
			mustWrite(t, d, 0, []byte{1})
		}
		mustRefuse(t, d, 0, []byte{1})
		d.FailAt(-1)
		mustRefuse(t, d, 0, []byte{1})
	}
}

// P4.3: the operations of other devices with the same power are counted, and those of other powers are not.
func TestFailAtOthers(t *testing.T) {
	p, other := power.New(-1), power.New(-1)
	one, two, far := New(p, 1, 1), New(p, 1, 1), New(other, 1, 1)
	one.FailAt(5)
	far.FailAt(5)
	for range 3 {
		mustWrite(t, two, 0, []byte{2})
	}
	p.Tick()
	mustWrite(t, one, 0, []byte{1})
	mustWrite(t, far, 0, []byte{3})
	mustFlush(t, two)
	mustRefuse(t, one, 0, []byte{1})
	if two.Dead() || far.Dead() {
		t.Error("another disk has failed with the first one")
	}
	mustRead(t, two, 0, []byte{2})
	mustRead(t, far, 0, []byte{3})
}

// P4.3: a disk fails at an operation of its own: while others pass the number, it can still be told otherwise.
func TestFailAtOwnOperation(t *testing.T) {
	p := power.New(-1)
	d := New(p, 1, 1)
	d.FailAt(2)
	for range 5 {
		p.Tick()
	}
	if d.Dead() {
		t.Error("the disk has failed without an operation")
	}
	d.FailAt(6)
	mustWrite(t, d, 0, []byte{1})
	mustRefuse(t, d, 0, []byte{1})
}

// P4.3: Blank replaces a disk whatever its state by one of the same size that is blank, works, and was never written.
func TestBlank(t *testing.T) {
	for name, prepare := range map[string]func(*Disk){
		"working":       func(*Disk) {},
		"waiting":       func(d *Disk) { d.Write(2, []byte{7, 7}) },
		"failed":        func(d *Disk) { d.Fail() },
		"going to fail": func(d *Disk) { d.FailAt(d.power.Used() + 2) },
		"due to fail":   func(d *Disk) { d.FailAt(0) },
		"failed there":  func(d *Disk) { d.FailAt(0); d.Flush() },
		"all of it":     func(d *Disk) { d.Write(2, []byte{7, 7}); d.FailAt(9); d.Fail() },
	} {
		d := New(power.New(-1), 3, 2)
		mustWrite(t, d, 0, []byte{1, 2})
		mustFlush(t, d)
		mustWrite(t, d, 1, []byte{3, 4})
		prepare(d)
		before := d.power.Used()
		d.Blank()
		if d.power.Used() != before || d.Dead() || d.Sectors() != 3 {
			t.Errorf("%s: dead %t, %d sectors, %d operations", name, d.Dead(), d.Sectors(), d.power.Used()-before)
		}
		mustWait(t, d)
		for i := range 3 {
			mustRead(t, d, i, []byte{0, 0})
			if got := d.Writes(i); got != 0 {
				t.Errorf("%s: Writes(%d) = %d", name, i, got)
			}
		}
		mustCycle(t, d, all)
		mustWrite(t, d, 1, []byte{5, 6})
		mustWait(t, d, 1)
		if got := d.Writes(1); got != 1 {
			t.Errorf("%s: Writes(1) = %d", name, got)
		}
		for range 20 {
			mustFlush(t, d)
		}
		mustRead(t, d, 1, []byte{5, 6})
	}
}

// P4.3: a blank disk can fail as a new one can.
func TestBlankFails(t *testing.T) {
	d := New(power.New(-1), 1, 1)
	d.Fail()
	d.Blank()
	d.FailAt(1)
	mustWrite(t, d, 0, []byte{1})
	mustRefuse(t, d, 0, []byte{2})
	d.Blank()
	d.Fail()
	mustRefuse(t, d, 0, []byte{2})
}

// P4.3: Writes counts what was written without an error, also what is lost afterwards, and of each sector for itself.
func TestWrites(t *testing.T) {
	p := power.New(-1)
	d := New(p, 3, 1)
	for range 4 {
		mustWrite(t, d, 1, []byte{1})
	}
	mustWrite(t, d, 2, []byte{0})
	d.Write(1, nil)
	d.Write(1, []byte{1, 2})
	d.Write(-1, []byte{1})
	d.Write(3, []byte{1})
	mustCycle(t, d, none)
	mustRead(t, d, 1, []byte{0})
	mustFlush(t, d)
	mustWrite(t, d, 1, []byte{1})
	p.Limit(0)
	power.Run(func() { d.Write(1, []byte{1}) })
	p.Limit(-1)
	d.Fail()
	d.Write(1, []byte{1})
	d.Write(0, []byte{1})
	before := p.Used()
	for i, want := range map[int]int{math.MinInt: 0, -1: 0, 0: 0, 1: 5, 2: 1, 3: 0, 4: 0, math.MaxInt: 0} {
		if got := d.Writes(i); got != want {
			t.Errorf("Writes(%d) = %d, not %d", i, got, want)
		}
	}
	if p.Used() != before || d.Sectors() != 3 {
		t.Errorf("%d operations, %d sectors", p.Used()-before, d.Sectors())
	}
}

// R5: what was passed to Write may be changed by the caller, is not changed by the disk, and neither is its spare capacity.
func TestWriteKeepsNothing(t *testing.T) {
	d := New(power.New(-1), 2, 3)
	whole := []byte{1, 2, 3, 0xAA, 0xAA, 0xAA}
	mustWrite(t, d, 0, whole[:3])
	if !bytes.Equal(whole, []byte{1, 2, 3, 0xAA, 0xAA, 0xAA}) {
		t.Errorf("Write has made %v of it", whole)
	}
	whole[0], whole[2] = 7, 7
	mustRead(t, d, 0, []byte{1, 2, 3})
	mustWrite(t, d, 1, whole[:3])
	mustFlush(t, d)
	copy(whole, []byte{9, 9, 9})
	mustRead(t, d, 0, []byte{1, 2, 3})
	mustRead(t, d, 1, []byte{7, 2, 7})
	mustWrite(t, d, 1, whole[1:4])
	mustCycle(t, d, all)
	clear(whole)
	mustRead(t, d, 1, []byte{9, 9, 0xAA})
}

// R5: what Read returned is new memory, whether the sector waits, is durable or was never written.
func TestReadIsNew(t *testing.T) {
	d := New(power.New(-1), 3, 2)
	mustWrite(t, d, 0, []byte{1, 2})
	mustFlush(t, d)
	mustWrite(t, d, 1, []byte{3, 4})
	for i, want := range [][]byte{{1, 2}, {3, 4}, {0, 0}} {
		first, _ := d.Read(i)
		second, _ := d.Read(i)
		first = first[:cap(first)]
		for k := range first {
			first[k] = 0xEE
		}
		if !bytes.Equal(second, want) {
			t.Errorf("two reads of sector %d share memory", i)
		}
		mustRead(t, d, i, want)
	}
	held, _ := d.Read(1)
	mustWrite(t, d, 1, []byte{5, 6})
	mustFlush(t, d)
	d.Blank()
	if !bytes.Equal(held, []byte{3, 4}) {
		t.Errorf("what was read has become %v", held)
	}
}

// R5: what Waiting returned is new memory, too.
func TestWaitingIsNew(t *testing.T) {
	d := New(power.New(-1), 9, 1)
	for _, i := range []int{8, 2, 5} {
		mustWrite(t, d, i, []byte{byte(i)})
	}
	first := d.Waiting()
	second := d.Waiting()
	clear(first)
	if !slices.Equal(second, []int{2, 5, 8}) {
		t.Errorf("two lists share memory: %v", second)
	}
	mustWait(t, d, 2, 5, 8)
	mustCycle(t, d, 5)
	if !slices.Equal(second, []int{2, 5, 8}) {
		t.Errorf("the list has become %v", second)
	}
	mustRead(t, d, 2, []byte{2})
	mustRead(t, d, 5, []byte{0})
	mustRead(t, d, 8, []byte{8})
}

// plain is a disk of one byte a sector, written down as the chapter tells it: what is durable and what is read, sector by sector.
type plain struct {
	durable, last []byte
	waits         []bool
	writes        []int
}

func (m *plain) cycle(keep uint64) {
	k := 0
	for i := range m.waits {
		if !m.waits[i] {
			continue
		}
		if keep>>(k%64)&1 == 1 {
			m.durable[i] = m.last[i]
		}
		m.last[i], m.waits[i] = m.durable[i], false
		k++
	}
}

// P4.1, P4.2, P4.3, R6: two disks with one power, after many steps of all kinds, are each as the chapter says.
func TestManySteps(t *testing.T) {
	const sectors = 100
	random := rand.New(rand.NewSource(4))
	p := power.New(-1)
	var disks [2]*Disk
	var models [2]*plain
	blank := func() *plain {
		return &plain{make([]byte, sectors), make([]byte, sectors), make([]bool, sectors), make([]int, sectors)}
	}
	for m := range disks {
		disks[m], models[m] = New(p, sectors, 1), blank()
	}
	for range 20_000 {
		which := random.Intn(2)
		d, m := disks[which], models[which]
		i, value := random.Intn(sectors), byte(random.Intn(256))
		switch kind := random.Intn(1000); {
		case kind < 700:
			mustWrite(t, d, i, []byte{value})
			m.last[i], m.waits[i] = value, true
			m.writes[i]++
		case kind < 970:
			mustRead(t, d, i, m.last[i:i+1])
		case kind < 980:
			mustFlush(t, d)
			m.cycle(all)
		case kind < 998:
			keep := random.Uint64()
			mustCycle(t, d, keep)
			m.cycle(keep)
		default:
			d.Blank()
			models[which] = blank()
		}
		for m, d := range disks {
			mustBePlain(t, d, models[m])
		}
		if t.Failed() {
			return
		}
	}
}

// mustBePlain checks what can be asked without an operation.
func mustBePlain(t *testing.T, d *Disk, m *plain) {
	t.Helper()
	var waiting []int
	for i := range m.waits {
		if m.waits[i] {
			waiting = append(waiting, i)
		}
		if got := d.Writes(i); got != m.writes[i] {
			t.Errorf("Writes(%d) = %d, not %d", i, got, m.writes[i])
		}
	}
	mustWait(t, d, waiting...)
}
