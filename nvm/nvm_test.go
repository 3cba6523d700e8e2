package nvm_test

import (
	"math"
	"reflect"
	"slices"
	"testing"

	"taproot/api"
	"taproot/nvm"
)

// shot is all that a device tells.
type shot struct {
	Len, Lines, Steps int
	Dead              bool
	Now, Lasting, All []uint64
	Dirty             []int
	Flushed           []uint64 // what lasts behind a crash that keeps what is pending
}

func shotOf(d *nvm.Device) shot {
	s := shot{Len: d.Len(), Lines: d.Lines(), Steps: d.Steps(), Dead: d.Dead()}
	for at := range d.Len() {
		s.Now = append(s.Now, d.Get(at))
		s.Lasting = append(s.Lasting, d.Lasting(at))
	}
	s.All = append(s.All, d.All()...)
	s.Dirty = append(s.Dirty, d.Dirty()...)
	s.Flushed = append(s.Flushed, d.Crash(alike(d.Lines(), nvm.Flushed)...).All()...)
	return s
}

// alike are so many choices, all the same one.
func alike(many int, choice uint8) []uint8 {
	return slices.Repeat([]uint8{choice}, many)
}

// counted are so many words, none of them 0, each another one.
func counted(many int) []uint64 {
	list := make([]uint64, many)
	for i := range list {
		list[i] = uint64(i) + 1
	}
	return list
}

// check holds an error against the one that is asked for.
func check(t *testing.T, what string, got, want api.Errno) {
	t.Helper()
	if got != want {
		t.Errorf("%s: error %d, want %d", what, got, want)
	}
}

// checkWords holds words against those that are asked for.
func checkWords(t *testing.T, what string, got, want []uint64) {
	t.Helper()
	if !slices.Equal(got, want) {
		t.Errorf("%s: %x, want %x", what, got, want)
	}
}

// checkDirty holds the dirty lines against those that are asked for.
func checkDirty(t *testing.T, d *nvm.Device, want ...int) {
	t.Helper()
	if got := d.Dirty(); !slices.Equal(got, want) {
		t.Errorf("Dirty: %v, want %v", got, want)
	}
}

// checkSame tells what a call has changed that should have changed nothing.
func checkSame(t *testing.T, what string, d *nvm.Device, before shot) {
	t.Helper()
	if after := shotOf(d); !reflect.DeepEqual(after, before) {
		t.Errorf("%s: %+v, before it %+v", what, after, before)
	}
}

// must does calls that are to tell OK.
func must(t *testing.T, errs ...api.Errno) {
	t.Helper()
	for i, err := range errs {
		if err != api.OK {
			t.Fatalf("call %d: error %d", i, err)
		}
	}
}

// outside are places, and lines, that a device of so many hasn't.
func outside(many int) []int {
	return []int{math.MinInt, math.MinInt + 1, math.MinInt32, -8, -1, many, many + 1, many + 8, math.MaxInt32, math.MaxInt - 1, math.MaxInt}
}

// TestExample: the chapter's example.
func TestExample(t *testing.T) {
	d := nvm.New(8)
	must(t, d.Store(0, 5))
	if got := d.Crash().Get(0); got != 0 {
		t.Errorf("behind Store: %d, want 0", got)
	}
	must(t, d.Persist(0, 1))
	if got := d.Crash().Get(0); got != 5 {
		t.Errorf("behind Persist: %d, want 5", got)
	}
}

// TestNew: P3.1, of New: noughts, in whole lines; nothing is dirty, or done.
func TestNew(t *testing.T) {
	rows := []struct{ words, lines int }{
		{math.MinInt, 0}, {-9, 0}, {-1, 0}, {0, 0}, {1, 1}, {7, 1}, {8, 1}, {9, 2}, {16, 2}, {17, 3},
		{511, 64}, {512, 64}, {513, 65}, {131072, 16384},
	}
	for _, r := range rows {
		d := nvm.New(r.words)
		if d.Lines() != r.lines || d.Len() != r.lines*8 {
			t.Errorf("New(%d): %d lines, %d words, want %d, %d", r.words, d.Lines(), d.Len(), r.lines, r.lines*8)
		}
		noughts := make([]uint64, r.lines*8)
		s := shotOf(d)
		if s.Steps != 0 || s.Dead || len(s.Dirty) != 0 {
			t.Errorf("New(%d): %d steps, dead %v, dirty %v", r.words, s.Steps, s.Dead, s.Dirty)
		}
		if !slices.Equal(s.Now, noughts) || !slices.Equal(s.Lasting, noughts) || !slices.Equal(s.All, noughts) {
			t.Errorf("New(%d): words that aren't 0", r.words)
		}
	}
}

// TestLoad: P3.1, of Load: the words, and noughts behind; they last, and nothing is dirty.
func TestLoad(t *testing.T) {
	for many := range 26 {
		list := counted(many)
		d := nvm.Load(list...)
		lines := (many + 7) / 8
		want := append(slices.Clone(list), make([]uint64, lines*8-many)...)
		s := shotOf(d)
		if s.Lines != lines || s.Len != lines*8 || s.Steps != 0 || s.Dead || len(s.Dirty) != 0 {
			t.Errorf("Load(of %d): %+v", many, s)
		}
		if !slices.Equal(s.Now, want) || !slices.Equal(s.Lasting, want) || !slices.Equal(s.All, want) {
			t.Errorf("Load(of %d): now %x, lasting %x, all %x, want %x", many, s.Now, s.Lasting, s.All, want)
		}
	}
	if d := nvm.Load(nil...); d.Len() != 0 || d.Lines() != 0 {
		t.Errorf("Load(nil...): %d words, %d lines", d.Len(), d.Lines())
	}
}

// TestMadeUnarmed: P3.1, P3.3: what New, Load and Crash make stops nowhere.
func TestMadeUnarmed(t *testing.T) {
	stopped := nvm.New(8)
	stopped.Arm(0)
	check(t, "Fence", stopped.Fence(), api.ErrDead)
	waiting := nvm.New(8)
	waiting.Arm(1)
	for name, d := range map[string]*nvm.Device{
		"New": nvm.New(8), "Load": nvm.Load(1), "Crash of a stopped one": stopped.Crash(), "Crash of an armed one": waiting.Crash(),
	} {
		for range 40 {
			check(t, name, d.Store(0, 1), api.OK)
			check(t, name, d.Fence(), api.OK)
		}
		if d.Dead() || d.Steps() != 80 {
			t.Errorf("%s: dead %v, %d steps", name, d.Dead(), d.Steps())
		}
	}
}

// TestNoSuchWord: P3.1, P3.2, of places that there are not: 0 of Get and Lasting, ErrAddress of Store, and nothing is changed.
func TestNoSuchWord(t *testing.T) {
	for _, many := range []int{0, 8, 20} {
		d := nvm.Load(counted(many)...)
		before := shotOf(d)
		for _, at := range outside(d.Len()) {
			if d.Get(at) != 0 || d.Lasting(at) != 0 {
				t.Errorf("of %d words, at %d: %d, lasting %d", many, at, d.Get(at), d.Lasting(at))
			}
			check(t, "Store", d.Store(at, 9), api.ErrAddress)
			checkSame(t, "Store", d, before)
		}
	}
}

// TestNoSuchLine: P3.2, of lines that there are not: ErrAddress, and nothing is changed.
func TestNoSuchLine(t *testing.T) {
	for _, many := range []int{0, 8, 20} {
		d := nvm.Load(counted(many)...)
		for line := range d.Lines() {
			must(t, d.Store(line*8+7, 77))
		}
		before := shotOf(d)
		for _, line := range outside(d.Lines()) {
			check(t, "Flush", d.Flush(line), api.ErrAddress)
			check(t, "Evict", d.Evict(line), api.ErrAddress)
			checkSame(t, "Flush, Evict", d, before)
		}
		// What was refused is not pending, either.
		must(t, d.Fence())
		before.Steps++
		checkSame(t, "Fence", d, before)
	}
}

// TestStore: P3.2, of Store: the word is another one now, and its line is dirty; it lasts as it did.
func TestStore(t *testing.T) {
	for at := range 24 {
		d := nvm.Load(counted(24)...)
		check(t, "Store", d.Store(at, math.MaxUint64), api.OK)
		want := counted(24)
		want[at] = math.MaxUint64
		s := shotOf(d)
		checkWords(t, "now", s.Now, want)
		checkWords(t, "lasting", s.Lasting, counted(24))
		checkWords(t, "all", s.All, counted(24))
		checkWords(t, "flushed", s.Flushed, counted(24))
		checkDirty(t, d, at/8)
		if s.Steps != 1 || s.Dead {
			t.Errorf("Store at %d: %d steps, dead %v", at, s.Steps, s.Dead)
		}
	}
}

// TestStoreOfTheSame: P3.2, of Store: a line is dirty from a Store on, even if the word was the same one.
func TestStoreOfTheSame(t *testing.T) {
	d := nvm.Load(counted(16)...)
	must(t, d.Store(9, 10))
	checkDirty(t, d, 1)
	must(t, d.Fence())
	checkDirty(t, d, 1)
	must(t, d.Flush(1), d.Fence())
	checkDirty(t, d)
}

// TestDirty: P3.2, of Dirty: the dirty lines, rising, each once, in whatever order they were stored to.
func TestDirty(t *testing.T) {
	d := nvm.New(80)
	for _, at := range []int{72, 3, 40, 79, 8, 41, 0} {
		must(t, d.Store(at, 1))
	}
	checkDirty(t, d, 0, 1, 5, 9)
	must(t, d.Flush(5), d.Flush(0))
	checkDirty(t, d, 0, 1, 5, 9)
	must(t, d.Fence())
	checkDirty(t, d, 1, 9)
}

// TestFlush: P3.2, of Flush: nothing lasts till a Fence; then what was flushed does, of that line alone.
func TestFlush(t *testing.T) {
	for line := range 3 {
		d := nvm.Load(counted(24)...)
		for at := range 24 {
			must(t, d.Store(at, uint64(at)+100))
		}
		check(t, "Flush", d.Flush(line), api.OK)
		checkWords(t, "All behind Flush", d.All(), counted(24))
		checkDirty(t, d, 0, 1, 2)
		check(t, "Fence", d.Fence(), api.OK)
		want := counted(24)
		for at := line * 8; at < line*8+8; at++ {
			want[at] = uint64(at) + 100
		}
		checkWords(t, "All behind Fence", d.All(), want)
		checkDirty(t, d, slices.DeleteFunc([]int{0, 1, 2}, func(i int) bool { return i == line })...)
		for at := range 24 {
			if got := d.Get(at); got != uint64(at)+100 {
				t.Errorf("Get(%d): %d", at, got)
			}
		}
	}
}

// TestFlushOfAClean: P3.2, of Flush: a step, too, if the line is clean; it isn't pending then.
func TestFlushOfAClean(t *testing.T) {
	d := nvm.Load(counted(8)...)
	check(t, "Flush", d.Flush(0), api.OK)
	if d.Steps() != 1 {
		t.Errorf("%d steps, want 1", d.Steps())
	}
	must(t, d.Store(0, 50))
	checkWords(t, "flushed", d.Crash(nvm.Flushed).All(), counted(8))
	must(t, d.Fence())
	checkWords(t, "All", d.All(), counted(8))
	checkDirty(t, d, 0)
}

// TestStoreBehindFlush: P3.2: what is stored behind the flush isn't part of it; the line is dirty behind the fence, just if it is another one.
func TestStoreBehindFlush(t *testing.T) {
	d := nvm.New(8)
	must(t, d.Store(2, 5), d.Flush(0), d.Store(2, 6), d.Store(3, 7))
	checkWords(t, "flushed", d.Crash(nvm.Flushed).All(), []uint64{0, 0, 5, 0, 0, 0, 0, 0})
	must(t, d.Fence())
	checkWords(t, "All", d.All(), []uint64{0, 0, 5, 0, 0, 0, 0, 0})
	checkDirty(t, d, 0)
	if d.Get(2) != 6 || d.Get(3) != 7 {
		t.Errorf("now %d and %d, want 6 and 7", d.Get(2), d.Get(3))
	}
	// It is pending no more: a further fence does nothing to it.
	must(t, d.Fence())
	checkWords(t, "All behind a further Fence", d.All(), []uint64{0, 0, 5, 0, 0, 0, 0, 0})
	checkDirty(t, d, 0)
	checkWords(t, "flushed behind it", d.Crash(nvm.Flushed).All(), []uint64{0, 0, 5, 0, 0, 0, 0, 0})

	back := nvm.New(8)
	must(t, back.Store(2, 5), back.Flush(0), back.Store(2, 6), back.Store(2, 5), back.Fence())
	checkDirty(t, back)
	if back.Lasting(2) != 5 {
		t.Errorf("back again: %d lasts, want 5", back.Lasting(2))
	}
}

// TestFlushedTwice: P3.2, of Flush: the later flush counts, in the place of the earlier one.
func TestFlushedTwice(t *testing.T) {
	d := nvm.New(8)
	must(t, d.Store(1, 5), d.Flush(0), d.Store(1, 6), d.Flush(0), d.Store(1, 7))
	if got := d.Crash(nvm.Flushed).Get(1); got != 6 {
		t.Errorf("flushed: %d, want 6", got)
	}
	must(t, d.Fence())
	if d.Lasting(1) != 6 || d.Get(1) != 7 {
		t.Errorf("%d lasts, %d now, want 6 and 7", d.Lasting(1), d.Get(1))
	}
	checkDirty(t, d, 0)

	same := nvm.New(8)
	must(t, same.Store(1, 5), same.Flush(0), same.Flush(0), same.Fence())
	checkDirty(t, same)
	if same.Steps() != 4 || same.Lasting(1) != 5 {
		t.Errorf("%d steps, %d lasts, want 4 and 5", same.Steps(), same.Lasting(1))
	}
}

// TestFenceOfNothing: P3.2, of Fence: while nothing is pending it is a step, and nothing lasts by it.
func TestFenceOfNothing(t *testing.T) {
	d := nvm.Load(counted(16)...)
	must(t, d.Store(4, 40))
	before := shotOf(d)
	check(t, "Fence", d.Fence(), api.OK)
	before.Steps++
	checkSame(t, "Fence", d, before)
	none := nvm.New(0)
	check(t, "Fence without words", none.Fence(), api.OK)
	if none.Steps() != 1 {
		t.Errorf("%d steps, want 1", none.Steps())
	}
}

// TestFenceOfSeveral: P3.2, of Fence: all that are pending last; each of them is dirty just if it is another one now.
func TestFenceOfSeveral(t *testing.T) {
	const lines = 40
	d := nvm.New(lines * 8)
	for line := range lines {
		must(t, d.Store(line*8+line%8, uint64(line)+1), d.Flush(line))
	}
	var want []int
	for line := 0; line < lines; line += 3 {
		must(t, d.Store(line*8, 1000))
		want = append(want, line)
	}
	must(t, d.Fence())
	checkDirty(t, d, want...)
	for line := range lines {
		if got := d.Lasting(line*8 + line%8); got != uint64(line)+1 {
			t.Errorf("line %d: %d lasts", line, got)
		}
	}
	// A fence that follows finds the lines that are pending since, and no others.
	must(t, d.Store(8, 2000), d.Flush(0), d.Fence())
	checkDirty(t, d, append([]int{1}, want[1:]...)...)
	if d.Lasting(0) != 1000 || d.Lasting(8) != 0 || d.Lasting(24) != 0 {
		t.Errorf("%d, %d and %d last, want 1000, 0 and 0", d.Lasting(0), d.Lasting(8), d.Lasting(24))
	}
}

// TestEvict: P3.2, of Evict: what the line is now lasts; no step; it is neither dirty nor pending.
func TestEvict(t *testing.T) {
	for line := range 3 {
		d := nvm.Load(counted(24)...)
		want := counted(24)
		for at := range 24 {
			must(t, d.Store(at, uint64(at)+100))
			if at/8 == line {
				want[at] = uint64(at) + 100
			}
		}
		check(t, "Evict", d.Evict(line), api.OK)
		checkWords(t, "All", d.All(), want)
		checkDirty(t, d, slices.DeleteFunc([]int{0, 1, 2}, func(i int) bool { return i == line })...)
		if d.Steps() != 24 {
			t.Errorf("%d steps, want 24", d.Steps())
		}
	}
	clean := nvm.Load(counted(8)...)
	before := shotOf(clean)
	check(t, "Evict of a clean line", clean.Evict(0), api.OK)
	checkSame(t, "Evict of a clean line", clean, before)
}

// TestEvictOfAPending: P3.2, of Evict: a line that was pending isn't any more: a fence doesn't bring back what it was flushed with.
func TestEvictOfAPending(t *testing.T) {
	d := nvm.New(16)
	must(t, d.Store(0, 5), d.Store(8, 50), d.Flush(0), d.Flush(1), d.Store(0, 6), d.Evict(0))
	checkDirty(t, d, 1)
	if d.Lasting(0) != 6 || d.Lasting(8) != 0 {
		t.Errorf("behind Evict %d and %d last, want 6 and 0", d.Lasting(0), d.Lasting(8))
	}
	must(t, d.Store(0, 7))
	if got := d.Crash(nvm.Flushed, nvm.Flushed); got.Get(0) != 6 || got.Get(8) != 50 {
		t.Errorf("flushed: %d and %d, want 6 and 50", got.Get(0), got.Get(8))
	}
	must(t, d.Fence())
	if d.Lasting(0) != 6 || d.Get(0) != 7 || d.Lasting(8) != 50 {
		t.Errorf("behind Fence %d lasts, %d now; %d lasts; want 6, 7, 50", d.Lasting(0), d.Get(0), d.Lasting(8))
	}
	checkDirty(t, d, 0)
}

// stepKinds are the three kinds of steps, on a device of a line and more.
var stepKinds = []struct {
	name string
	do   func(d *nvm.Device) api.Errno
}{
	{"Store", func(d *nvm.Device) api.Errno { return d.Store(0, d.Get(0)+1) }},
	{"Flush", func(d *nvm.Device) api.Errno { return d.Flush(0) }},
	{"Fence", func(d *nvm.Device) api.Errno { return d.Fence() }},
}

// TestArm: n steps are done; the one behind them isn't, whatever kind it is, and none behind it.
func TestArm(t *testing.T) {
	for _, kind := range stepKinds {
		for _, n := range []int{0, 1, 2, 5, 9} {
			d := nvm.New(16)
			must(t, d.Store(0, 5), d.Flush(0), d.Store(0, 6))
			d.Arm(n)
			for i := range n {
				check(t, kind.name, d.Fence(), api.OK)
				if d.Dead() || d.Steps() != 3+i+1 {
					t.Fatalf("armed with %d: dead %v, %d steps", n, d.Dead(), d.Steps())
				}
			}
			before := shotOf(d)
			if before.Dead {
				t.Errorf("armed with %d: dead ahead of the step", n)
			}
			before.Dead = true
			for range 3 {
				check(t, kind.name+" at the stop", kind.do(d), api.ErrDead)
				checkSame(t, kind.name+" at the stop", d, before)
			}
			for _, later := range stepKinds {
				check(t, later.name+" behind the stop", later.do(d), api.ErrDead)
			}
			checkSame(t, "behind the stop", d, before)
		}
	}
}

// TestLastStep: the last step that is done ahead of a stop is done whole, whatever kind it is.
func TestLastStep(t *testing.T) {
	for i, kind := range stepKinds {
		d := nvm.New(8)
		must(t, d.Store(0, 5))
		if i == 2 {
			must(t, d.Flush(0))
		}
		d.Arm(1)
		check(t, kind.name, kind.do(d), api.OK)
		if d.Dead() {
			t.Errorf("%s: dead behind the last step", kind.name)
		}
		check(t, "the next one", d.Fence(), api.ErrDead)
		want := []struct{ now, lasting, flushed uint64 }{{6, 0, 0}, {5, 0, 5}, {5, 5, 5}}[i]
		if d.Get(0) != want.now || d.Lasting(0) != want.lasting || d.Crash(nvm.Flushed).Get(0) != want.flushed {
			t.Errorf("%s: %d now, %d lasts, %d flushed, want %+v", kind.name, d.Get(0), d.Lasting(0), d.Crash(nvm.Flushed).Get(0), want)
		}
	}
}

// TestArmAgain: a later Arm counts, in the place of an earlier one; below 0 it stops at none.
func TestArmAgain(t *testing.T) {
	d := nvm.New(8)
	d.Arm(2)
	must(t, d.Fence())
	d.Arm(3)
	must(t, d.Fence(), d.Fence(), d.Fence())
	d.Arm(1)
	must(t, d.Fence())
	for _, n := range []int{-1, math.MinInt} {
		d.Arm(0)
		d.Arm(n)
		for range 50 {
			must(t, d.Fence())
		}
	}
	d.Arm(math.MaxInt)
	must(t, d.Fence(), d.Fence())
	d.Arm(0)
	if d.Dead() {
		t.Errorf("dead ahead of a step")
	}
	check(t, "Fence", d.Fence(), api.ErrDead)
	if !d.Dead() || d.Steps() != 107 {
		t.Errorf("dead %v, %d steps, want true, 107", d.Dead(), d.Steps())
	}
}

// TestArmBehindAStop: a device that has stopped does nothing more, however it is armed.
func TestArmBehindAStop(t *testing.T) {
	for _, n := range []int{math.MinInt, -1, 0, 1, 100, math.MaxInt} {
		d := nvm.New(8)
		must(t, d.Store(0, 5))
		d.Arm(0)
		check(t, "Flush", d.Flush(0), api.ErrDead)
		before := shotOf(d)
		d.Arm(n)
		checkSame(t, "Arm", d, before)
		for _, kind := range stepKinds {
			check(t, kind.name, kind.do(d), api.ErrDead)
		}
		check(t, "Evict", d.Evict(0), api.ErrDead)
		check(t, "Persist", d.Persist(0, 8), api.ErrDead)
		checkSame(t, "behind the stop", d, before)
	}
}

// TestRefusedIsNoStep: what is refused by ErrAddress is no step: the device stops as late as it would, and not at such a call.
func TestRefusedIsNoStep(t *testing.T) {
	refuse := func(d *nvm.Device) {
		t.Helper()
		check(t, "Store", d.Store(8, 1), api.ErrAddress)
		check(t, "Flush", d.Flush(1), api.ErrAddress)
		check(t, "Evict", d.Evict(-1), api.ErrAddress)
		check(t, "Persist", d.Persist(1, 8), api.ErrAddress)
	}
	d := nvm.New(8)
	d.Arm(1)
	refuse(d)
	check(t, "Store", d.Store(0, 5), api.OK)
	refuse(d)
	if d.Dead() || d.Steps() != 1 {
		t.Errorf("dead %v, %d steps, want false, 1", d.Dead(), d.Steps())
	}
	check(t, "Store", d.Store(0, 6), api.ErrDead)
	// ErrAddress is named ahead of ErrDead.
	refuse(d)
	if d.Get(0) != 5 {
		t.Errorf("now %d, want 5", d.Get(0))
	}
}

// TestEvictIsNoStep: P3.2, of Evict: done while the next step would not be; ErrDead behind a stop.
func TestEvictIsNoStep(t *testing.T) {
	d := nvm.New(16)
	must(t, d.Store(0, 5), d.Store(8, 6))
	d.Arm(0)
	check(t, "Evict", d.Evict(0), api.OK)
	if d.Dead() || d.Steps() != 2 || d.Lasting(0) != 5 {
		t.Errorf("dead %v, %d steps, %d lasts, want false, 2, 5", d.Dead(), d.Steps(), d.Lasting(0))
	}
	check(t, "Fence", d.Fence(), api.ErrDead)
	before := shotOf(d)
	check(t, "Evict behind the stop", d.Evict(1), api.ErrDead)
	checkSame(t, "Evict behind the stop", d, before)
}

// mixedLines is a device with lines that are clean (0), stored (1), flushed (2), flushed and stored again (3), and stored (4).
func mixedLines(t *testing.T) *nvm.Device {
	t.Helper()
	d := nvm.Load(counted(40)...)
	must(t, d.Store(39, 500), d.Store(24, 300), d.Flush(3), d.Store(24, 301), d.Store(16, 200), d.Flush(2), d.Store(15, 100))
	return d
}

// crashed are the words of mixedLines' dirty lines that differ: of lines 1, 2, 3 and 4.
func crashed(d *nvm.Device) [4]uint64 {
	return [4]uint64{d.Lasting(15), d.Lasting(16), d.Lasting(24), d.Lasting(39)}
}

// TestCrash: P3.3, of Crash: each dirty line, rising, by its choice.
func TestCrash(t *testing.T) {
	const lost, flushed, kept = nvm.Lost, nvm.Flushed, nvm.Kept
	rows := []struct {
		choices []uint8
		want    [4]uint64
	}{
		{nil, [4]uint64{16, 17, 25, 40}},
		{[]uint8{}, [4]uint64{16, 17, 25, 40}},
		{[]uint8{lost, lost, lost, lost}, [4]uint64{16, 17, 25, 40}},
		{[]uint8{flushed, flushed, flushed, flushed}, [4]uint64{16, 200, 300, 40}},
		{[]uint8{kept, kept, kept, kept}, [4]uint64{100, 200, 301, 500}},
		{[]uint8{kept}, [4]uint64{100, 17, 25, 40}},
		{[]uint8{lost, flushed}, [4]uint64{16, 200, 25, 40}},
		{[]uint8{kept, lost, flushed}, [4]uint64{100, 17, 300, 40}},
		{[]uint8{lost, lost, lost, kept}, [4]uint64{16, 17, 25, 500}},
		{[]uint8{lost, kept, flushed, kept, kept, kept, flushed}, [4]uint64{16, 200, 300, 500}},
		{[]uint8{3, 4, 5, 255}, [4]uint64{16, 200, 301, 40}},
		{[]uint8{5, 3, 4, 254}, [4]uint64{100, 17, 300, 500}},
		{[]uint8{128, 253, 253, 128}, [4]uint64{100, 200, 300, 500}},
	}
	for _, r := range rows {
		d := mixedLines(t)
		before := shotOf(d)
		left := d.Crash(r.choices...)
		checkSame(t, "Crash", d, before)
		if got := crashed(left); got != r.want {
			t.Errorf("Crash(%v): %v, want %v", r.choices, got, r.want)
		}
		s := shotOf(left)
		want := counted(40)
		want[15], want[16], want[24], want[39] = r.want[0], r.want[1], r.want[2], r.want[3]
		if s.Len != 40 || s.Lines != 5 || s.Steps != 0 || s.Dead || len(s.Dirty) != 0 {
			t.Errorf("Crash(%v): %+v", r.choices, s)
		}
		checkWords(t, "now", s.Now, want)
		checkWords(t, "lasting", s.Lasting, want)
		checkWords(t, "all", s.All, want)
	}
}

// TestCrashOfAStopped: P3.3, of Crash: a device that has stopped leaves what it had; that goes on.
func TestCrashOfAStopped(t *testing.T) {
	d := mixedLines(t)
	d.Arm(0)
	check(t, "Fence", d.Fence(), api.ErrDead)
	before := shotOf(d)
	left := d.Crash(nvm.Kept, nvm.Lost, nvm.Flushed)
	checkSame(t, "Crash", d, before)
	if got := crashed(left); got != [4]uint64{100, 17, 300, 40} {
		t.Errorf("Crash: %v", got)
	}
	if left.Dead() || left.Steps() != 0 {
		t.Errorf("dead %v, %d steps", left.Dead(), left.Steps())
	}
	must(t, left.Store(0, 9), left.Persist(0, 1))
	if left.Lasting(0) != 9 || d.Lasting(0) != 1 || d.Get(0) != 1 {
		t.Errorf("%d lasts there, %d here, want 9 and 1", left.Lasting(0), d.Lasting(0))
	}
}

// TestCrashIsAnother: P3.3, P2: what one device does is nothing to the other; nothing is pending there.
func TestCrashIsAnother(t *testing.T) {
	d := mixedLines(t)
	left := d.Crash(nvm.Kept, nvm.Kept, nvm.Kept, nvm.Kept)
	there := shotOf(left)
	must(t, d.Store(16, 1), d.Store(0, 1), d.Fence(), d.Evict(4))
	checkSame(t, "steps here", left, there)
	here := shotOf(d)
	must(t, left.Fence())
	checkWords(t, "All behind a Fence there", left.All(), there.All)
	must(t, left.Store(16, 7), left.Store(32, 8), left.Flush(2), left.Fence(), left.Evict(4))
	left.Arm(0)
	check(t, "Fence", left.Fence(), api.ErrDead)
	checkSame(t, "steps there", d, here)
}

// TestPersist: P3.3, of Persist: the lines of which a word is one of these are flushed, no others, and then a fence.
func TestPersist(t *testing.T) {
	const many = 40
	for at := range many + 1 {
		for words := range many - at + 1 {
			d := nvm.New(many)
			for i := range many {
				must(t, d.Store(i, uint64(i)+1))
			}
			want := make([]uint64, many)
			dirty := []int{}
			lines := 0
			for line := range many / 8 {
				if words > 0 && at < line*8+8 && at+words > line*8 {
					copy(want[line*8:line*8+8], counted(many)[line*8:])
					lines++
				} else {
					dirty = append(dirty, line)
				}
			}
			check(t, "Persist", d.Persist(at, words), api.OK)
			if got := d.All(); !slices.Equal(got, want) {
				t.Fatalf("Persist(%d, %d): %v last, want %v", at, words, got, want)
			}
			checkDirty(t, d, dirty...)
			if got := d.Steps() - many; got != lines+1 {
				t.Fatalf("Persist(%d, %d): %d steps, want %d", at, words, got, lines+1)
			}
		}
	}
}

// TestPersistFences: P3.3, of Persist: its fence is one for all that is pending, even if it has no words.
func TestPersistFences(t *testing.T) {
	for _, at := range []int{0, 3, 8, 16} {
		d := nvm.New(16)
		must(t, d.Store(9, 5), d.Flush(1), d.Store(1, 6))
		check(t, "Persist", d.Persist(at, 0), api.OK)
		if d.Steps() != 4 || d.Lasting(9) != 5 || d.Lasting(1) != 0 {
			t.Errorf("Persist(%d, 0): %d steps, %d and %d last, want 4, 5, 0", at, d.Steps(), d.Lasting(9), d.Lasting(1))
		}
		checkDirty(t, d, 0)
	}
	none := nvm.New(0)
	check(t, "Persist without words", none.Persist(0, 0), api.OK)
	if none.Steps() != 1 {
		t.Errorf("%d steps, want 1", none.Steps())
	}
}

// TestPersistOfNoSuchWords: P3.3, of Persist: ErrAddress, and nothing is changed: nothing is pending, either.
func TestPersistOfNoSuchWords(t *testing.T) {
	least, most := math.MinInt, math.MaxInt
	for _, many := range []int{0, 16} {
		rows := [][2]int{
			{many, 1}, {0, many + 1}, {many - 1, 2}, {many + 1, 0}, {many + 1, -1}, {many + 8, 0}, {-1, 0}, {-1, 1}, {-1, 2}, {-8, 16},
			{0, -1}, {8, -8}, {many, -1}, {most, 0}, {most, 1}, {most, most}, {0, most}, {1, most}, {8, most - 7}, {many, most},
			{least, 0}, {least, 1}, {least, least}, {0, least}, {1, least}, {many, least}, {most, least}, {least, most}, {-1, most}, {-1, least}, {most, -most}, {-most, most},
		}
		for _, r := range rows {
			d := nvm.New(many)
			for line := range d.Lines() {
				must(t, d.Store(line*8, 5))
			}
			before := shotOf(d)
			if got := d.Persist(r[0], r[1]); got != api.ErrAddress {
				t.Errorf("of %d words, Persist(%d, %d): %d, want ErrAddress", many, r[0], r[1], got)
			}
			checkSame(t, "Persist", d, before)
			d.Arm(0)
			check(t, "Persist", d.Persist(r[0], r[1]), api.ErrAddress)
			if d.Dead() {
				t.Errorf("Persist(%d, %d): dead", r[0], r[1])
			}
		}
	}
}

// TestStopsWithinPersist: P3.3, of Persist: the first error; the lines that were flushed ahead of the stop, rising, are pending.
func TestStopsWithinPersist(t *testing.T) {
	for n := range 5 {
		d := nvm.New(40)
		for i := range 40 {
			must(t, d.Store(i, uint64(i)+1))
		}
		d.Arm(n)
		want := api.ErrDead
		if n == 4 { // three flushes and a fence
			want = api.OK
		}
		check(t, "Persist", d.Persist(15, 10), want)
		if d.Dead() != (want == api.ErrDead) || d.Steps() != 40+n {
			t.Errorf("armed with %d: dead %v, %d steps", n, d.Dead(), d.Steps())
		}
		flushed := make([]uint64, 40)
		copy(flushed[8:8+8*min(n, 3)], counted(40)[8:])
		lasting := make([]uint64, 40)
		if n == 4 {
			copy(lasting, flushed)
			checkDirty(t, d, 0, 4)
		} else {
			checkDirty(t, d, 0, 1, 2, 3, 4)
		}
		checkWords(t, "flushed", d.Crash(alike(5, nvm.Flushed)...).All(), flushed)
		checkWords(t, "lasting", d.All(), lasting)
	}
}

// ways are all choices for so many lines.
func ways(lines int) [][]uint8 {
	list := [][]uint8{{}}
	for range lines {
		var longer [][]uint8
		for _, w := range list {
			for choice := range uint8(3) {
				longer = append(longer, append(slices.Clone(w), choice))
			}
		}
		list = longer
	}
	return list
}

// TestPersistedLasts: P3.4: what was persisted is there behind every crash, and the next one; a store to it alone may lose it, for what is stored.
func TestPersistedLasts(t *testing.T) {
	d := nvm.Load(counted(32)...)
	must(t, d.Store(5, 50), d.Store(8, 80), d.Persist(5, 4))
	must(t, d.Store(17, 170), d.Flush(2), d.Store(30, 300))
	for _, w := range ways(d.Lines()) {
		left := d.Crash(w...)
		if left.Get(5) != 50 || left.Get(8) != 80 {
			t.Fatalf("Crash(%v): %d and %d, want 50 and 80", w, left.Get(5), left.Get(8))
		}
		must(t, left.Store(0, 1), left.Store(9, 2))
		again := left.Crash(w...)
		if again.Get(5) != 50 || again.Get(8) != 80 {
			t.Fatalf("Crash(%v), twice: %d and %d, want 50 and 80", w, again.Get(5), again.Get(8))
		}
	}
	must(t, d.Store(5, 51))
	for _, w := range ways(d.Lines()) {
		want := uint64(50)
		if w[0] == nvm.Kept {
			want = 51
		}
		if left := d.Crash(w...); left.Get(5) != want || left.Get(8) != 80 {
			t.Fatalf("stored again, Crash(%v): %d and %d, want %d and 80", w, left.Get(5), left.Get(8), want)
		}
	}
}

// model goes word by word, and by absolute numbers of steps, as the chapter tells it.
type model struct {
	lasting, now, flushed []uint64
	dirty, pending        map[int]bool
	steps, stop           int
	dead                  bool
}

func newModel(words int) *model {
	return &model{
		lasting: make([]uint64, words), now: make([]uint64, words), flushed: make([]uint64, words),
		dirty: map[int]bool{}, pending: map[int]bool{}, stop: -1,
	}
}

func (m *model) arm(n int) {
	m.stop = -1
	if n >= 0 {
		m.stop = m.steps + n
	}
}

func (m *model) step(do func()) api.Errno {
	m.dead = m.dead || m.steps == m.stop
	if m.dead {
		return api.ErrDead
	}
	m.steps++
	do()
	return api.OK
}

func (m *model) store(at int, w uint64) api.Errno {
	if at < 0 || at >= len(m.now) {
		return api.ErrAddress
	}
	return m.step(func() { m.now[at], m.dirty[at/8] = w, true })
}

func (m *model) flush(line int) api.Errno {
	if line < 0 || line*8 >= len(m.now) {
		return api.ErrAddress
	}
	return m.step(func() {
		if m.dirty[line] {
			m.pending[line] = true
			for i := range 8 {
				m.flushed[line*8+i] = m.now[line*8+i]
			}
		}
	})
}

func (m *model) fence() api.Errno {
	return m.step(func() {
		for line := range len(m.now) / 8 {
			if !m.pending[line] {
				continue
			}
			m.pending[line], m.dirty[line] = false, false
			for at := line * 8; at < line*8+8; at++ {
				m.lasting[at] = m.flushed[at]
				m.dirty[line] = m.dirty[line] || m.now[at] != m.lasting[at]
			}
		}
	})
}

func (m *model) evict(line int) api.Errno {
	if line < 0 || line*8 >= len(m.now) {
		return api.ErrAddress
	}
	if m.dead {
		return api.ErrDead
	}
	for at := line * 8; at < line*8+8; at++ {
		m.lasting[at] = m.now[at]
	}
	m.pending[line], m.dirty[line] = false, false
	return api.OK
}

func (m *model) persist(at, words int) api.Errno {
	if at < 0 || words < 0 || at+words > len(m.now) {
		return api.ErrAddress
	}
	var lines []int
	for i := at; i < at+words; i++ {
		if !slices.Contains(lines, i/8) {
			lines = append(lines, i/8)
		}
	}
	for _, line := range lines {
		if err := m.flush(line); err != api.OK {
			return err
		}
	}
	return m.fence()
}

func (m *model) dirties() []int {
	var lines []int
	for line := range len(m.now) / 8 {
		if m.dirty[line] {
			lines = append(lines, line)
		}
	}
	return lines
}

func (m *model) crash(choices []uint8) []uint64 {
	words := slices.Clone(m.lasting)
	for i, line := range m.dirties() {
		choice := uint8(0)
		if i < len(choices) {
			choice = choices[i] % 3
		}
		for at := line * 8; at < line*8+8; at++ {
			if choice == 2 {
				words[at] = m.now[at]
			} else if choice == 1 && m.pending[line] {
				words[at] = m.flushed[at]
			}
		}
	}
	return words
}

// mixer is numbers of all kinds, always the same ones.
type mixer uint64

func (x *mixer) below(n int) int {
	*x = *x*6364136223846793005 + 1442695040888963407
	return int(uint64(*x)>>33) % n
}

// TestWalk: P3.1 to P3.3 and P3.5, of long mixed rows of calls, held against the model.
func TestWalk(t *testing.T) {
	x := mixer(1)
	for walk := range 400 {
		words := 8 * (1 + x.below(5))
		d, m := nvm.New(words), newModel(words)
		if walk%2 == 0 {
			n := x.below(120)
			d.Arm(n)
			m.arm(n)
		}
		for range 150 {
			at, line := x.below(words+2)-1, x.below(words/8+2)-1
			var got, want api.Errno
			switch x.below(8) {
			case 0, 1, 2:
				// Few values, so that a line is now and then again what it was.
				w := uint64(x.below(3))
				got, want = d.Store(at, w), m.store(at, w)
			case 3, 4:
				got, want = d.Flush(line), m.flush(line)
			case 5:
				got, want = d.Fence(), m.fence()
			case 6:
				if x.below(4) == 0 {
					got, want = d.Evict(line), m.evict(line)
				}
			case 7:
				if n := x.below(12); n < 9 {
					got, want = d.Persist(at, n), m.persist(at, n)
				} else if n == 9 && walk%4 == 0 {
					d.Arm(at * 4)
					m.arm(at * 4)
				}
			}
			if got != want {
				t.Fatalf("walk %d: error %d, want %d", walk, got, want)
			}
			checkWalk(t, d, m, &x)
		}
	}
}

// checkWalk holds a device against the model, and its crashes.
func checkWalk(t *testing.T, d *nvm.Device, m *model, x *mixer) {
	t.Helper()
	s := shotOf(d)
	want := shot{Len: len(m.now), Lines: len(m.now) / 8, Steps: m.steps, Dead: m.dead, Now: m.now, Lasting: m.lasting, All: m.lasting, Dirty: m.dirties(), Flushed: m.crash(alike(len(m.now)/8, 1))}
	if !reflect.DeepEqual(s, want) {
		t.Fatalf("%+v, want %+v", s, want)
	}
	choices := make([]uint8, x.below(8))
	for i := range choices {
		choices[i] = uint8(x.below(256))
	}
	if got := d.Crash(choices...).All(); !slices.Equal(got, m.crash(choices)) {
		t.Fatalf("Crash(%v): %v, want %v", choices, got, m.crash(choices))
	}
	// P3.5: all Kept.
	if got := d.Crash(alike(len(m.now)/8, nvm.Kept)...).All(); !slices.Equal(got, s.Now) {
		t.Fatalf("all Kept: %v, want %v", got, s.Now)
	}
}

// TestListsAreLeft: P2 (rule 4): lists handed in stay as they are, with their spare room, and aren't kept; lists answered are new.
func TestListsAreLeft(t *testing.T) {
	for _, many := range []int{5, 8, 12} {
		room := counted(24)
		d := nvm.Load(room[:many]...)
		checkWords(t, "Load's list", room, counted(24))
		before := shotOf(d)
		clear(room)
		checkSame(t, "Load's list is changed", d, before)
		list := counted(24)
		d = nvm.Load(list[:many]...)
		must(t, d.Store(0, 99), d.Persist(0, 1))
		checkWords(t, "Load's list behind a Store", list, counted(24))
	}

	d := mixedLines(t)
	before := shotOf(d)
	choices := []uint8{5, 200, 1, 2, 7, 7}
	left := d.Crash(choices[:3]...)
	if !slices.Equal(choices, []uint8{5, 200, 1, 2, 7, 7}) {
		t.Errorf("Crash's choices: %v", choices)
	}
	there := shotOf(left)
	clear(choices)
	checkSame(t, "Crash's choices are changed", left, there)

	all, dirty := d.All(), d.Dirty()
	clear(all)
	clear(dirty)
	checkSame(t, "lists that were told are changed", d, before)
	all = d.All()
	must(t, d.Evict(4))
	checkWords(t, "All that was told", all, before.All)
}

// TestAllEnd: P1: no call panics, at the farthest arguments together, on devices with words and without, alive and stopped.
func TestAllEnd(t *testing.T) {
	ints := []int{math.MinInt, math.MinInt + 1, -8, -1, 0, 1, 7, 8, 9, 16, math.MaxInt - 7, math.MaxInt}
	stopped := nvm.New(16)
	stopped.Arm(0)
	stopped.Fence()
	for _, d := range []*nvm.Device{nvm.New(0), nvm.New(-1), nvm.Load(), nvm.New(16), stopped, stopped.Crash(1, 2)} {
		for _, a := range ints {
			d.Get(a)
			d.Lasting(a)
			d.Store(a, math.MaxUint64)
			d.Flush(a)
			d.Evict(a)
			for _, b := range ints {
				d.Persist(a, b)
			}
			d.Fence()
			d.Crash()
			d.Crash(nil...)
			d.Crash(alike(300, uint8(a))...)
			d.All()
			d.Dirty()
		}
		for _, a := range ints {
			d.Arm(a)
			d.Store(0, 1)
			d.Persist(0, 8)
		}
	}
	// More words than there can be: nothing is promised of them but that the call ends.
	for _, words := range []int{math.MinInt, math.MaxInt - 7, math.MaxInt} {
		nvm.New(words)
	}
}
