package power

import (
	"errors"
	"math"
	"reflect"
	"runtime"
	"testing"
)

// many is how often a counter without a limit is tried.
const many = 100_000

// ticks returns a function that does n operations.
func ticks(p *Power, n int) func() {
	return func() {
		for range n {
			p.Tick()
		}
	}
}

// thrownBy calls do and returns what it throws, or nil.
func thrownBy(do func()) (thrown any) {
	defer func() { thrown = recover() }()
	do()
	return nil
}

// mustAllow checks that exactly n more operations can be done: the power goes at the next one, however often it is tried, and nothing more is counted.
func mustAllow(t *testing.T, p *Power, n int) {
	t.Helper()
	before := p.Used()
	for i := range n {
		if Run(p.Tick) {
			t.Fatalf("the power went at operation %d of %d", i+1, n)
		}
		if got := p.Used(); got != before+i+1 {
			t.Fatalf("after %d and %d operations Used = %d", before, i+1, got)
		}
	}
	for range 3 {
		if !Run(p.Tick) {
			t.Fatalf("more than %d operations could be done", n)
		}
		if got := p.Used(); got != before+n {
			t.Fatalf("the power went after %d operations, and Used = %d", before+n, got)
		}
	}
}

// mustAllowAny checks that there is no limit, as far as trying shows it.
func mustAllowAny(t *testing.T, p *Power) {
	t.Helper()
	before := p.Used()
	if Run(ticks(p, many)) {
		t.Fatalf("the power went without a limit, after %d operations", p.Used()-before)
	}
	if got := p.Used(); got != before+many {
		t.Fatalf("after %d and %d operations Used = %d", before, many, got)
	}
}

// P3.1, P3.2: the document's example.
func TestExample(t *testing.T) {
	p := New(1)
	if !Run(func() { p.Tick(); p.Tick() }) {
		t.Error("the power did not go")
	}
	if got := p.Used(); got != 1 {
		t.Errorf("Used = %d", got)
	}
}

// P3.1: of a new counter no operation was done, whatever its limit.
func TestNewUsed(t *testing.T) {
	for _, limit := range []int{math.MinInt, -1, 0, 1, 5, math.MaxInt} {
		if got := New(limit).Used(); got != 0 {
			t.Errorf("New(%d).Used() = %d", limit, got)
		}
	}
}

// P3.1: as many operations can be done as the limit says, none if it is nought.
func TestNewLimit(t *testing.T) {
	for _, limit := range []int{0, 1, 2, 3, 64, 1000} {
		mustAllow(t, New(limit), limit)
	}
}

// P3.1: a limit below nought is none, the least int and its neighbours included; the greatest int is not passed by trying.
func TestNewNoLimit(t *testing.T) {
	for _, limit := range []int{-1, -2, -many, math.MinInt32, math.MinInt + 1, math.MinInt, math.MaxInt, math.MaxInt - 1, math.MaxInt32, 1 << 32} {
		mustAllowAny(t, New(limit))
	}
}

// P3.1: the power goes by a panic of Tick, with a value of a type that only this package can name.
func TestTickThrowsPrivateValue(t *testing.T) {
	p := New(1)
	if thrown := thrownBy(p.Tick); thrown != nil {
		t.Fatalf("the first operation throws %v", thrown)
	}
	thrown := thrownBy(p.Tick)
	if thrown == nil {
		t.Fatal("nothing was thrown when the power went")
	}
	kind := reflect.TypeOf(thrown)
	name := kind.Name()
	if kind.PkgPath() != "drystone/power" || name == "" || name[0] < 'a' || name[0] > 'z' {
		t.Errorf("a value of type %v was thrown, which is not private", kind)
	}
}

// P3.1: a Tick after the limit was reached counts nothing, so that Limit permits the same afterwards as before.
func TestTickBeyondLimitCountsNothing(t *testing.T) {
	p := New(3)
	for range 50 {
		Run(ticks(p, 10))
	}
	if got := p.Used(); got != 3 {
		t.Errorf("Used = %d", got)
	}
	p.Limit(4)
	mustAllow(t, p, 4)
	if got := p.Used(); got != 7 {
		t.Errorf("Used = %d", got)
	}
}

// P3.1, R6: Used only tells: it neither counts nor permits.
func TestUsedOnlyTells(t *testing.T) {
	p := New(2)
	for range 10 {
		if got := p.Used(); got != 0 {
			t.Fatalf("Used = %d", got)
		}
	}
	mustAllow(t, p, 2)
	for range 10 {
		p.Used()
	}
	mustAllow(t, p, 0)
}

// P3.1: Limit before the power went counts from now on: neither what was done nor what was permitted before adds to it or takes from it.
func TestLimitBefore(t *testing.T) {
	for _, first := range []int{math.MinInt, -1, 7, 8, 100, math.MaxInt} {
		for _, done := range []int{0, 1, 6, 7} {
			for _, more := range []int{0, 1, 2, 5, 6, 7, 8, 200} {
				p := New(first)
				ticks(p, done)()
				p.Limit(more)
				if got := p.Used(); got != done {
					t.Fatalf("Limit changed Used from %d to %d", done, got)
				}
				mustAllow(t, p, more)
			}
		}
	}
}

// P3.1: Limit after the power went permits operations again, or none if more is nought.
func TestLimitAfter(t *testing.T) {
	for _, first := range []int{0, 1, 5} {
		p := New(first)
		mustAllow(t, p, first)
		for _, more := range []int{0, 1, 0, 3, 10, 0, 0, 2} {
			p.Limit(more)
			mustAllow(t, p, more)
		}
	}
}

// P3.1: with more below nought there is no limit, before and after the power went, until another one is set.
func TestLimitNone(t *testing.T) {
	for _, more := range []int{-1, -2, -6, math.MinInt32, math.MinInt + 1, math.MinInt} {
		p := New(5)
		ticks(p, 2)()
		p.Limit(more)
		mustAllowAny(t, p)
		p.Limit(2)
		mustAllow(t, p, 2)
		p.Limit(more)
		mustAllowAny(t, p)
		p.Limit(0)
		mustAllow(t, p, 0)
	}
}

// P3.1: with more so great that its sum with what was used passes the greatest int, the power does not go for that.
func TestLimitGreat(t *testing.T) {
	for _, more := range []int{math.MaxInt, math.MaxInt - 1, math.MaxInt - 2, math.MaxInt - 3} {
		p := New(3)
		ticks(p, 2)()
		p.Limit(more)
		mustAllowAny(t, p)
		p.Limit(0)
		mustAllow(t, p, 0)
		p.Limit(more)
		mustAllowAny(t, p)
		p.Limit(math.MaxInt)
		mustAllowAny(t, p)
		p.Limit(1)
		mustAllow(t, p, 1)
	}
}

// P3.1: of several Limits the last one counts.
func TestLimitLast(t *testing.T) {
	p := New(9)
	for _, more := range []int{3, math.MaxInt, -1, 0, 4} {
		p.Limit(more)
	}
	mustAllow(t, p, 4)
}

// P3.2: nothing happens for nil.
func TestRunNil(t *testing.T) {
	if Run(nil) {
		t.Error("the power went in nothing")
	}
	p := New(0)
	Run(p.Tick)
	if Run(nil) {
		t.Error("the power went in nothing, after it had gone in something")
	}
}

// P3.2: do is called once, whole, and the power did not go if it returns, even with the last operation that was permitted.
func TestRunReturns(t *testing.T) {
	p := New(2)
	var did []int
	gone := Run(func() {
		did = append(did, p.Used())
		p.Tick()
		did = append(did, p.Used())
		p.Tick()
		did = append(did, p.Used())
	})
	if gone || !reflect.DeepEqual(did, []int{0, 1, 2}) {
		t.Errorf("gone %t, did %v", gone, did)
	}
	if Run(func() {}) || Run(func() { p.Used() }) {
		t.Error("the power went without an operation")
	}
}

// P3.2: what do does after the power went is not done, however deep in its calls the power went.
func TestRunStops(t *testing.T) {
	p := New(2)
	past := 0
	deep := func() {
		p.Tick()
		past++
	}
	gone := Run(func() {
		for range 10 {
			func() {
				deep()
				past += 10
			}()
			past += 100
		}
		past += 1000
	})
	if !gone || past != 222 || p.Used() != 2 {
		t.Errorf("gone %t, past %d, used %d", gone, past, p.Used())
	}
}

// P3.2: what do deferred is called, and the power, which is gone, goes there once more without anything being thrown on.
func TestRunDeferred(t *testing.T) {
	p := New(1)
	closed := 0
	gone := Run(func() {
		defer func() {
			closed++
			p.Tick()
			closed += 10
		}()
		ticks(p, 2)()
	})
	if !gone || closed != 1 || p.Used() != 1 {
		t.Errorf("gone %t, closed %d, used %d", gone, closed, p.Used())
	}
}

// P3.2, R6: each Run reports on its own call alone.
func TestRunRepeats(t *testing.T) {
	p := New(1)
	for i, want := range []bool{false, true, true} {
		if got := Run(p.Tick); got != want {
			t.Errorf("call %d: %t", i, got)
		}
	}
	if Run(func() {}) {
		t.Error("the power went in a call that did nothing")
	}
	p.Limit(1)
	for i, want := range []bool{false, true} {
		if got := Run(p.Tick); got != want {
			t.Errorf("call %d after Limit: %t", i, got)
		}
	}
}

// P3.1, P3.2: a do may set the limit itself, and what it permits can be done in the same call.
func TestLimitInRun(t *testing.T) {
	p := New(1)
	gone := Run(func() {
		p.Tick()
		p.Limit(2)
		ticks(p, 5)()
	})
	if !gone || p.Used() != 3 {
		t.Errorf("gone %t, used %d", gone, p.Used())
	}
}

// P3.2: the power that goes in an inner Run is reported there, and the outer do goes on.
func TestRunInnerGone(t *testing.T) {
	p := New(1)
	inner, after := false, false
	outer := Run(func() {
		inner = Run(ticks(p, 2))
		after = true
	})
	if !inner || outer || !after || p.Used() != 1 {
		t.Errorf("inner %t, outer %t, after %t, used %d", inner, outer, after, p.Used())
	}
}

// P3.2: after an inner Run, whether the power went in it or not, it can go in the outer one.
func TestRunOuterGone(t *testing.T) {
	for _, limit := range []int{2, 3} {
		p := New(limit)
		inner, past := false, false
		outer := Run(func() {
			inner = Run(ticks(p, 3))
			p.Tick()
			past = true
		})
		if inner != (limit == 2) || !outer || past || p.Used() != limit {
			t.Errorf("limit %d: inner %t, outer %t, past %t, used %d", limit, inner, outer, past, p.Used())
		}
	}
}

// P3.2: no power goes in either, though one Run stands within the other.
func TestRunInnerReturns(t *testing.T) {
	p := New(5)
	inner := true
	outer := Run(func() { inner = Run(ticks(p, 5)) })
	if inner || outer || p.Used() != 5 {
		t.Errorf("inner %t, outer %t, used %d", inner, outer, p.Used())
	}
}

// P3.2: another panic is passed on by the inner Run to the outer one, and by that to its caller.
func TestRunInnerThrows(t *testing.T) {
	past := 0
	thrown := thrownBy(func() {
		Run(func() {
			Run(func() { panic("else") })
			past++
		})
		past++
	})
	if thrown != "else" || past != 0 {
		t.Errorf("%v was thrown on, past %d", thrown, past)
	}
}

// P3.2: another panic of do is passed on with the very value that was thrown.
func TestRunThrowsOn(t *testing.T) {
	own := new(int)
	err := errors.New("an error")
	for _, want := range []any{"else", "", 0, 7, false, true, 1.5, 'r', struct{}{}, [2]int{1, 2}, own, (*int)(nil), err, New(0), *New(0)} {
		if got := thrownBy(func() { Run(func() { panic(want) }) }); got != want {
			t.Errorf("%T %v was thrown on as %T %v", want, want, got, got)
		}
	}
}

// P3.2: so is a value that cannot be compared.
func TestRunThrowsOnUncomparable(t *testing.T) {
	for _, want := range []any{[]int{1, 2}, map[string]int{"a": 1}, [1]any{[]int{3}}} {
		if got := thrownBy(func() { Run(func() { panic(want) }) }); !reflect.DeepEqual(got, want) {
			t.Errorf("%v was thrown on as %v", want, got)
		}
	}
	called := false
	got := thrownBy(func() { Run(func() { panic(func() { called = true }) }) })
	if f, ok := got.(func()); !ok {
		t.Errorf("a function was thrown on as %T", got)
	} else if f(); !called {
		t.Error("another function was thrown on")
	}
}

// P3.2: so is what the language itself throws, nil among it.
func TestRunThrowsOnRuntimeErrors(t *testing.T) {
	var none map[string]int
	var nothing []int
	for _, do := range []func(){
		func() { none["a"] = 1 },
		func() { _ = nothing[len(none)] },
		func() { panic(nil) },
	} {
		alone, through := thrownBy(do), thrownBy(func() { Run(do) })
		if _, ok := through.(runtime.Error); !ok || reflect.TypeOf(alone) != reflect.TypeOf(through) {
			t.Errorf("%T %v was thrown on as %T %v", alone, alone, through, through)
		}
	}
}

// P3.2: a value that looks like the private one, but is of another type, is another panic.
func TestRunThrowsOnLookalike(t *testing.T) {
	private := outage{}
	type outage struct{}
	want := any(outage{})
	if got := thrownBy(func() { Run(func() { panic(want) }) }); got != want {
		t.Errorf("%T was thrown on as %T", want, got)
	}
	pointer := any(&private)
	if got := thrownBy(func() { Run(func() { panic(pointer) }) }); got != pointer {
		t.Errorf("%T was thrown on as %T", pointer, got)
	}
}

// P3.1, P3.2: another panic counts no operation and takes none away.
func TestThrowingCountsNothing(t *testing.T) {
	p := New(3)
	thrown := thrownBy(func() {
		Run(func() {
			p.Tick()
			panic("else")
		})
	})
	if thrown != "else" || p.Used() != 1 {
		t.Errorf("%v was thrown on, used %d", thrown, p.Used())
	}
	mustAllow(t, p, 2)
}

// P3.2: the panic that do ends with is the one that counts: another one after the power went, or the power after another one that do caught.
func TestRunLastPanicCounts(t *testing.T) {
	p := New(0)
	thrown := thrownBy(func() {
		Run(func() {
			defer func() { panic("else") }()
			p.Tick()
		})
	})
	if thrown != "else" {
		t.Errorf("%v was thrown on", thrown)
	}
	if !Run(func() { thrownBy(func() { panic("else") }); p.Tick() }) {
		t.Error("the power did not go after another panic")
	}
}

// R6: counters do not know of each other, and Run reports of any of them.
func TestCountersApart(t *testing.T) {
	one, two := New(1), New(2)
	if Run(one.Tick) || !Run(one.Tick) {
		t.Error("the first counter does not allow one operation")
	}
	mustAllow(t, two, 2)
	if one.Used() != 1 || two.Used() != 2 {
		t.Errorf("used %d and %d", one.Used(), two.Used())
	}
	two.Limit(-1)
	mustAllow(t, one, 0)
	one.Limit(3)
	if !Run(func() { two.Tick(); ticks(one, 4)() }) || one.Used() != 4 || two.Used() != 3 {
		t.Errorf("used %d and %d", one.Used(), two.Used())
	}
}
