package runs_test

import (
	"fmt"
	"math"
	"slices"
	"testing"

	"taproot/api"
	"taproot/blocks"
	"taproot/runs"
)

// The model has a truth for each block: is it free? It counts on from each block, and knows nothing of runs.

type span = blocks.Span

// run is so many blocks from one on.
func run(start, n int) span { return span{Start: start, Len: n} }

// spans are runs, of numbers that are told in pairs: the first block, and how many.
func spans(pairs ...int) []span {
	var list []span
	for i := 0; i < len(pairs); i += 2 {
		list = append(list, run(pairs[i], pairs[i+1]))
	}
	return list
}

// model is what each block from 0 up to a limit is; that of number 0 is never free.
type model []bool

// modelOf is blocks up to a limit, none of them free.
func modelOf(limit int) model { return make(model, max(limit, 0)) }

// is tells whether there is such a block that is free.
func (m model) is(block int) bool { return block >= 0 && block < len(m) && m[block] }

// behind is the first block from one on that isn't free.
func (m model) behind(block int) int {
	for m.is(block) {
		block++
	}
	return block
}

func (m model) list() []span {
	var list []span
	for block := range m {
		if m.is(block) && !m.is(block-1) {
			list = append(list, run(block, m.behind(block)-block))
		}
	}
	return list
}

func (m model) total() int {
	many := 0
	for block := range m {
		if m.is(block) {
			many++
		}
	}
	return many
}

func (m model) longest() int {
	many := 0
	for block := range m {
		many = max(many, m.behind(block)-block)
	}
	return many
}

func (m model) give(start, n int) api.Errno {
	if n < 1 || start < 1 {
		return api.ErrArg
	}
	for i := range n {
		if start+i >= len(m) {
			return api.ErrArg
		}
	}
	for i := range n {
		if m.is(start + i) {
			return api.ErrTwice
		}
	}
	for i := range n {
		m[start+i] = true
	}
	return api.OK
}

func (m model) take(n int) (int, api.Errno) {
	if n < 1 {
		return 0, api.ErrArg
	}
	// Runs of as many first, then of one more, and so on.
	for many := n; many < len(m); many++ {
		for block := range m {
			if m.is(block) && !m.is(block-1) && m.behind(block)-block == many {
				for i := range n {
					m[block+i] = false
				}
				return block, api.OK
			}
		}
	}
	return 0, api.ErrSpace
}

// next is a generator of numbers below n, always the same ones.
func next(seed uint64) func(n int) int {
	return func(n int) int {
		seed = seed*6364136223846793005 + 1442695040888963407
		return int(seed>>33) % n
	}
}

// far are numbers that no block, and no number of blocks, is.
func far() []int {
	return []int{
		math.MinInt, math.MinInt + 1, math.MinInt + 2, math.MinInt + 9, math.MinInt32 - 1, math.MinInt32, -65536, -257, -256, -255, -9, -3, -2, -1,
		1 << 20, math.MaxInt32, math.MaxInt32 + 1, 1 << 32, 1<<32 + 1, 1<<32 + 2, 1 << 62, math.MaxInt - 9, math.MaxInt - 2, math.MaxInt - 1, math.MaxInt,
	}
}

// check holds an error against the one that is asked for.
func check(t *testing.T, what string, got, want api.Errno) {
	t.Helper()
	if got != want {
		t.Errorf("%s: error %d, want %d", what, got, want)
	}
}

// checkTake holds what Take answers against what is asked for.
func checkTake(t *testing.T, x *runs.Index, n, want int, wantErr api.Errno) {
	t.Helper()
	if got, err := x.Take(n); got != want || err != wantErr {
		t.Errorf("Take(%d): %d, error %d, want %d, %d", n, got, err, want, wantErr)
	}
}

// checkRuns holds what an index tells of all its runs against those that it should have; the numbers are told in pairs.
func checkRuns(t *testing.T, what string, x *runs.Index, pairs ...int) {
	t.Helper()
	total, longest := 0, 0
	for _, s := range spans(pairs...) {
		total += s.Len
		longest = max(longest, s.Len)
		for block, want := range map[int]bool{s.Start - 1: false, s.Start: true, s.Start + s.Len/2: true, s.Start + s.Len - 1: true, s.Start + s.Len: false} {
			if got := x.Has(block); got != want {
				t.Errorf("%s: Has(%d) %t, want %t", what, block, got, want)
			}
		}
	}
	if got := x.List(); !slices.Equal(got, spans(pairs...)) {
		t.Errorf("%s: List %v, want %v", what, got, spans(pairs...))
	}
	if got := x.Total(); got != total {
		t.Errorf("%s: Total %d, want %d", what, got, total)
	}
	if got := x.Longest(); got != longest {
		t.Errorf("%s: Longest %d, want %d", what, got, longest)
	}
}

// checkModel holds all that an index tells against the model; what is said of it is worked out if it is another thing alone.
func checkModel(t *testing.T, x *runs.Index, m model, what string, of ...any) {
	t.Helper()
	if x == nil {
		t.Fatalf("%s: no index", fmt.Sprintf(what, of...))
	}
	if got := x.List(); !slices.Equal(got, m.list()) {
		t.Errorf("%s: List %v, want %v", fmt.Sprintf(what, of...), got, m.list())
	}
	if got := x.Total(); got != m.total() {
		t.Errorf("%s: Total %d, want %d", fmt.Sprintf(what, of...), got, m.total())
	}
	if got := x.Longest(); got != m.longest() {
		t.Errorf("%s: Longest %d, want %d", fmt.Sprintf(what, of...), got, m.longest())
	}
	for block := -2; block < len(m)+2; block++ {
		if got := x.Has(block); got != m.is(block) {
			t.Errorf("%s: Has(%d) %t, want %t", fmt.Sprintf(what, of...), block, got, m.is(block))
		}
	}
}

// masked are blocks up to a limit of which those are free whose bits are set, that of block 1 the lowest one; each was given alone, rising.
func masked(t *testing.T, limit int, mask uint) (*runs.Index, model) {
	t.Helper()
	x, m := runs.New(limit), modelOf(limit)
	for block := 1; block < limit; block++ {
		if mask>>(block-1)&1 != 0 {
			check(t, "Give", x.Give(block, 1), api.OK)
			m[block] = true
		}
	}
	return x, m
}

// masks is how many ways there are in which blocks up to a limit may be free.
func masks(limit int) uint {
	return 1 << max(limit-1, 0)
}

// filled is an index over blocks up to a limit, of runs that are told in pairs.
func filled(t *testing.T, limit int, pairs ...int) *runs.Index {
	t.Helper()
	x, err := runs.Fill(limit, spans(pairs...))
	if x == nil || err != api.OK {
		t.Fatalf("Fill(%d, %v): %v, error %d", limit, pairs, x, err)
	}
	return x
}

// TestExample: the chapter's example.
func TestExample(t *testing.T) {
	for _, limit := range []int{6, 7, 256} {
		x := runs.New(limit)
		check(t, "Give", x.Give(1, 5), api.OK)
		checkTake(t, x, 2, 1, api.OK)
		checkRuns(t, "the example", x, 3, 3)
	}
}

// TestNew: P11.1, of New: over blocks from 1 to limit - 1; none of them is free.
func TestNew(t *testing.T) {
	for _, limit := range append(far(), 0, 1, 2, 3, 4, 255, 256, 257) {
		x := runs.New(limit)
		checkRuns(t, "New", x)
		for _, block := range append(far(), 0, 1, 2, limit-1, limit, limit+1) {
			if x.Has(block) {
				t.Errorf("New(%d): Has(%d)", limit, block)
			}
		}
		checkTake(t, x, 1, 0, api.ErrSpace)
		checkTake(t, x, 0, 0, api.ErrArg)
		last := limit - 1
		if limit == math.MinInt || last < 1 {
			check(t, "Give of block 1", x.Give(1, 1), api.ErrArg)
			check(t, "Give of block 0", x.Give(0, 1), api.ErrArg)
			checkRuns(t, "over no block", x)
			continue
		}
		check(t, "Give of the limit", x.Give(limit, 1), api.ErrArg)
		check(t, "Give of one more than there are", x.Give(1, limit), api.ErrArg)
		check(t, "Give of the last block", x.Give(last, 1), api.OK)
		checkRuns(t, "the last block", x, last, 1)
		checkTake(t, x, 1, last, api.OK)
		checkRuns(t, "none again", x)
		check(t, "Give of block 1", x.Give(1, 1), api.OK)
		checkRuns(t, "block 1", x, 1, 1)
		checkTake(t, x, 1, 1, api.OK)
		check(t, "Give of all", x.Give(1, last), api.OK)
		checkRuns(t, "all", x, 1, last)
		checkTake(t, x, last, 1, api.OK)
		checkRuns(t, "none once more", x)
	}
}

// TestTouch: P11.2, of Give: blocks that touch no run, the run ahead, the one behind, and both; no other run is touched.
func TestTouch(t *testing.T) {
	x := filled(t, 40, 5, 3, 20, 2, 30, 10)
	checkRuns(t, "three runs", x, 5, 3, 20, 2, 30, 10)
	check(t, "Give", x.Give(12, 3), api.OK)
	checkRuns(t, "touches none", x, 5, 3, 12, 3, 20, 2, 30, 10)
	check(t, "Give", x.Give(8, 1), api.OK)
	checkRuns(t, "touches the run ahead", x, 5, 4, 12, 3, 20, 2, 30, 10)
	check(t, "Give", x.Give(17, 3), api.OK)
	checkRuns(t, "touches the run behind", x, 5, 4, 12, 3, 17, 5, 30, 10)
	check(t, "Give", x.Give(9, 3), api.OK)
	checkRuns(t, "touches both", x, 5, 10, 17, 5, 30, 10)
	check(t, "Give", x.Give(15, 1), api.OK)
	checkRuns(t, "touches the run ahead, and nearly the one behind", x, 5, 11, 17, 5, 30, 10)
	check(t, "Give", x.Give(23, 7), api.OK)
	checkRuns(t, "touches the run behind, and nearly the one ahead", x, 5, 11, 17, 5, 23, 17)
	check(t, "Give", x.Give(22, 1), api.OK)
	checkRuns(t, "touches both", x, 5, 11, 17, 23)
	check(t, "Give", x.Give(1, 4), api.OK)
	checkRuns(t, "touches the first", x, 1, 15, 17, 23)
	check(t, "Give", x.Give(16, 1), api.OK)
	checkRuns(t, "all", x, 1, 39)
	checkTake(t, x, 39, 1, api.OK)
	checkRuns(t, "none", x)
}

// TestTake: P11.2, of Take: of the shortest run that has as many, of alike ones the first, the first blocks; a part of a run, and a whole one.
func TestTake(t *testing.T) {
	list := []int{1, 5, 10, 3, 20, 3, 30, 4, 40, 6, 50, 1}
	x := filled(t, 60, list...)
	checkTake(t, x, 2, 10, api.OK)
	checkRuns(t, "a part of the first of two alike ones", x, 1, 5, 12, 1, 20, 3, 30, 4, 40, 6, 50, 1)
	checkTake(t, x, 3, 20, api.OK)
	checkRuns(t, "a whole one", x, 1, 5, 12, 1, 30, 4, 40, 6, 50, 1)
	checkTake(t, x, 1, 12, api.OK)
	checkRuns(t, "a whole one of one block", x, 1, 5, 30, 4, 40, 6, 50, 1)
	checkTake(t, x, 3, 30, api.OK)
	checkRuns(t, "all but one block", x, 1, 5, 33, 1, 40, 6, 50, 1)
	checkTake(t, x, 6, 40, api.OK)
	checkRuns(t, "the longest one, whole", x, 1, 5, 33, 1, 50, 1)
	checkTake(t, x, 6, 0, api.ErrSpace)
	checkTake(t, x, 1, 33, api.OK)
	checkTake(t, x, 1, 50, api.OK)
	checkTake(t, x, 1, 1, api.OK)
	checkRuns(t, "of the one that is left", x, 2, 4)
	checkTake(t, x, 5, 0, api.ErrSpace)
	checkTake(t, x, 4, 2, api.OK)
	checkRuns(t, "none", x)
	checkTake(t, x, 1, 0, api.ErrSpace)
	// The same runs, asked for each number alone.
	for n, want := range map[int]int{1: 50, 2: 10, 3: 10, 4: 30, 5: 1, 6: 40} {
		checkTake(t, filled(t, 60, list...), n, want, api.OK)
	}
	// Of many alike ones the first, in whatever order they were given.
	x = filled(t, 100, 90, 3, 50, 3, 10, 3, 70, 3, 30, 3, 80, 4, 20, 4)
	for _, want := range []int{10, 30, 50, 70, 90, 20, 80} {
		checkTake(t, x, 3, want, api.OK)
	}
	checkRuns(t, "what was over", x, 23, 1, 83, 1)
}

// TestTakeWrong: P11.2, of Take: ErrArg below 1, ErrSpace above the longest run, also if all together have as many; nothing is changed.
func TestTakeWrong(t *testing.T) {
	for _, list := range [][]int{nil, {1, 1}, {1, 19}, {19, 1}, {1, 3, 5, 4, 12, 3}, {2, 2, 5, 2, 8, 2}} {
		x := filled(t, 20, list...)
		longest := 0
		for i := 1; i < len(list); i += 2 {
			longest = max(longest, list[i])
		}
		for _, n := range append(far(), 0, longest+1, longest+2, 19, 20, 21) {
			switch {
			case n < 1:
				checkTake(t, x, n, 0, api.ErrArg)
			case n > longest:
				checkTake(t, x, n, 0, api.ErrSpace)
			}
			checkRuns(t, "refused", x, list...)
		}
	}
}

// TestGiveWrong: P11.2, of Give: ErrArg of blocks that aren't, and of none; ErrTwice if one of them is free, but ErrArg where both apply; nothing is changed.
func TestGiveWrong(t *testing.T) {
	list := []int{3, 4, 10, 1, 15, 5}
	x := filled(t, 20, list...)
	refused := func(start, n int, want api.Errno) {
		t.Helper()
		check(t, fmt.Sprintf("Give(%d, %d)", start, n), x.Give(start, n), want)
		checkRuns(t, fmt.Sprintf("behind Give(%d, %d)", start, n), x, list...)
	}
	for _, start := range append(far(), 0, 1, 2, 3, 6, 10, 19, 20, 21) {
		for _, n := range append(far(), 0, 20, 21) {
			refused(start, n, api.ErrArg)
		}
		// Behind the last block, or ahead of block 1, there is none.
		refused(start, 20-min(max(start, 0), 19)+1, api.ErrArg)
	}
	for _, n := range []int{1, 2, 3, 18, 19} {
		refused(0, n, api.ErrArg)
		refused(-1, n, api.ErrArg)
		refused(20, n, api.ErrArg)
		refused(21, n, api.ErrArg)
		refused(math.MaxInt-n+1, n, api.ErrArg)
		refused(math.MaxInt-n+2, n, api.ErrArg)
		refused(math.MinInt, n, api.ErrArg)
		refused(2, math.MaxInt-n, api.ErrArg)
	}
	for _, s := range spans(
		3, 1, 3, 4, 3, 5, 4, 1, 4, 2, 5, 5, 6, 1, 6, 3, // the first one is free
		1, 3, 2, 2, 2, 7, 1, 6, 1, 19, 9, 2, 12, 4, 14, 2, 14, 6, // another one is
		9, 6, 8, 4, 9, 3, 7, 4, 7, 8, 7, 13, 10, 1, 10, 10, 10, 5, 19, 1, 18, 2, 15, 5) {
		refused(s.Start, s.Len, api.ErrTwice)
	}
	// Both apply.
	for _, s := range spans(3, 0, 3, -1, 0, 4, 0, 20, -5, 9, 19, 2, 15, 6, 10, 11, 1, 20, 3, math.MaxInt, 3, math.MaxInt-2, 19, math.MinInt, 10, 0) {
		refused(s.Start, s.Len, api.ErrArg)
	}
	check(t, "Give of what is left", x.Give(1, 2), api.OK)
	check(t, "Give of what is left", x.Give(7, 3), api.OK)
	check(t, "Give of what is left", x.Give(11, 4), api.OK)
	checkRuns(t, "all", x, 1, 19)
}

// TestGiveEach: P11.1 and P11.2, of Give: whichever blocks are free, any blocks from any one on, against the model.
func TestGiveEach(t *testing.T) {
	for limit := -2; limit <= 7; limit++ {
		for mask := range masks(limit) {
			for start := -2; start <= limit+2; start++ {
				for n := -2; n <= limit+2; n++ {
					x, m := masked(t, limit, mask)
					check(t, fmt.Sprintf("%v, Give(%d, %d)", m.list(), start, n), x.Give(start, n), m.give(start, n))
					checkModel(t, x, m, "%d, %b: behind Give(%d, %d)", limit, mask, start, n)
				}
			}
		}
	}
}

// TestTakeEach: P11.1 and P11.2, of Take: whichever blocks are free, any number of blocks, again and again, against the model.
func TestTakeEach(t *testing.T) {
	for limit := -2; limit <= 10; limit++ {
		for mask := range masks(limit) {
			for n := -1; n <= limit+1; n++ {
				x, m := masked(t, limit, mask)
				for range 3 {
					want, wantErr := m.take(n)
					checkTake(t, x, n, want, wantErr)
					checkModel(t, x, m, "%d, %b: behind Take(%d)", limit, mask, n)
				}
			}
		}
	}
}

// TestOrder: P11.2, of Give: in whatever order blocks are given, the same ones are free; block by block, and pair by pair.
func TestOrder(t *testing.T) {
	const limit = 13
	var give func(order []int, left []int)
	give = func(order []int, left []int) {
		if len(left) > 0 {
			for i := range left {
				give(append(order, left[i]), slices.Delete(slices.Clone(left), i, i+1))
			}
			return
		}
		x, m := runs.New(limit), modelOf(limit)
		for _, i := range order {
			check(t, "Give of one", x.Give(1+i, 1), m.give(1+i, 1))
			checkModel(t, x, m, "in the order %v: block %d", order, 1+i)
		}
		x, m = runs.New(limit), modelOf(limit)
		for _, i := range order {
			check(t, "Give of two", x.Give(1+2*i, 2), m.give(1+2*i, 2))
			checkModel(t, x, m, "in the order %v: from block %d on", order, 1+2*i)
		}
		checkRuns(t, "all", x, 1, 12)
	}
	give(nil, []int{0, 1, 2, 3, 4, 5})
}

// TestBack: P11.3: what is taken, and given back, leaves the same blocks free: one run, and two in both orders.
func TestBack(t *testing.T) {
	for limit := 1; limit <= 9; limit++ {
		for mask := range masks(limit) {
			x, m := masked(t, limit, mask)
			for n := 1; n < limit; n++ {
				for second := 1; second < limit; second++ {
					for turn := range 2 {
						taken := []span{take(x, n), take(x, second)}
						if turn == 1 {
							slices.Reverse(taken)
						}
						for _, s := range taken {
							if s.Len > 0 {
								check(t, "Give", x.Give(s.Start, s.Len), api.OK)
							}
						}
						checkModel(t, x, m, "%d, %b: %v, taken and given back", limit, mask, taken)
					}
				}
			}
		}
	}
}

// take is so many blocks that are taken; none, if there is no run of as many.
func take(x *runs.Index, n int) span {
	start, err := x.Take(n)
	if err != api.OK {
		return span{}
	}
	return run(start, n)
}

// TestBackBlockwise: P11.3: what is taken at once may be given back block by block, and the other way round.
func TestBackBlockwise(t *testing.T) {
	for n := 1; n <= 12; n++ {
		x := filled(t, 40, 2, 5, 10, 12, 30, 9)
		_, m := masked(t, 40, 0)
		for _, s := range spans(2, 5, 10, 12, 30, 9) {
			m.give(s.Start, s.Len)
		}
		start, err := x.Take(n)
		check(t, "Take", err, api.OK)
		for i := range n {
			check(t, "Give", x.Give(start+(i+n/2)%n, 1), api.OK)
		}
		checkModel(t, x, m, "%d at once, and back one by one", n)
		var taken []int
		for range n {
			block, err := x.Take(1)
			check(t, "Take", err, api.OK)
			taken = append(taken, block)
		}
		if n <= 5 {
			check(t, "Give", x.Give(taken[0], n), api.OK)
		} else {
			for _, block := range taken {
				check(t, "Give", x.Give(block, 1), api.OK)
			}
		}
		checkModel(t, x, m, "%d one by one, and back", n)
	}
}

// TestFill: P11.2, of Fill: New, and Give of each span, in order: none, one, several, and those that touch.
func TestFill(t *testing.T) {
	for _, limit := range append(far(), 0, 1, 2, 256) {
		for _, list := range [][]span{nil, {}} {
			x, err := runs.Fill(limit, list)
			if x == nil || err != api.OK {
				t.Fatalf("Fill(%d) of none: %v, error %d", limit, x, err)
			}
			checkRuns(t, "none", x)
			check(t, "Give", x.Give(1, 1), runs.New(limit).Give(1, 1))
		}
	}
	checkRuns(t, "one", filled(t, 9, 2, 3), 2, 3)
	checkRuns(t, "all", filled(t, 9, 1, 8), 1, 8)
	checkRuns(t, "block 1, and the last one", filled(t, 9, 1, 1, 8, 1), 1, 1, 8, 1)
	checkRuns(t, "several", filled(t, 30, 1, 2, 4, 1, 9, 20), 1, 2, 4, 1, 9, 20)
	checkRuns(t, "in another order", filled(t, 30, 9, 20, 1, 2, 4, 1), 1, 2, 4, 1, 9, 20)
	checkRuns(t, "that touch", filled(t, 30, 9, 20, 1, 4, 7, 2, 6, 1), 1, 4, 6, 23)
	checkRuns(t, "that are all", filled(t, 30, 20, 10, 1, 10, 11, 9), 1, 29)
	x := filled(t, 30, 3, 2)
	check(t, "Give up to the limit", x.Give(5, 25), api.OK)
	check(t, "Give of the limit", x.Give(30, 1), api.ErrArg)
	checkRuns(t, "behind Fill", x, 3, 27)
	checkTake(t, x, 27, 3, api.OK)
}

// TestFillWrong: P11.2, of Fill: no index, and the first error of a Give.
func TestFillWrong(t *testing.T) {
	checkNone := func(want api.Errno, limit int, pairs ...int) {
		t.Helper()
		if x, err := runs.Fill(limit, spans(pairs...)); x != nil || err != want {
			t.Errorf("Fill(%d, %v): %v, error %d, want none, %d", limit, pairs, x, err, want)
		}
	}
	checkNone(api.ErrArg, 9, 0, 1)
	checkNone(api.ErrArg, 9, 9, 1)
	checkNone(api.ErrArg, 9, 1, 9)
	checkNone(api.ErrArg, 9, 1, 0)
	checkNone(api.ErrArg, 9, 0, 0)
	checkNone(api.ErrArg, 1, 1, 1)
	checkNone(api.ErrArg, 0, 1, 1)
	checkNone(api.ErrArg, math.MinInt, 1, 1)
	checkNone(api.ErrArg, math.MinInt, 1, math.MaxInt)
	checkNone(api.ErrArg, math.MaxInt, math.MaxInt, 1)
	checkNone(api.ErrArg, math.MaxInt, 2, math.MaxInt-1)
	checkNone(api.ErrTwice, 9, 2, 3, 4, 1)
	checkNone(api.ErrTwice, 9, 2, 3, 2, 3)
	checkNone(api.ErrTwice, 9, 2, 3, 1, 2)
	checkNone(api.ErrTwice, 9, 2, 3, 1, 8)
	checkNone(api.ErrTwice, 9, 2, 3, 6, 2, 5, 2)
	checkNone(api.ErrTwice, 9, 2, 3, 3, 1, 0, 1)
	checkNone(api.ErrTwice, 9, 2, 3, 3, 1, 5, 0)
	checkNone(api.ErrArg, 9, 2, 3, 0, 1, 3, 1)
	checkNone(api.ErrArg, 9, 2, 3, 5, 0, 3, 1)
	checkNone(api.ErrArg, 9, 2, 3, 4, 6)
	checkNone(api.ErrArg, 9, 2, 3, 5, 1, 6, 4)
	checkNone(api.ErrArg, 9, 1, 1, 3, 1, 5, 1, 7, 1, 9, 1)
}

// TestFillEach: P11.2, of Fill: any three spans, right or not, against the model.
func TestFillEach(t *testing.T) {
	for limit := -1; limit <= 4; limit++ {
		var each []span
		for start := -1; start <= limit+1; start++ {
			for n := -1; n <= limit+1; n++ {
				each = append(each, run(start, n))
			}
		}
		for i := range len(each) * len(each) * len(each) {
			list := []span{each[i%len(each)], each[i/len(each)%len(each)], each[i/len(each)/len(each)]}
			m, want := modelOf(limit), api.OK
			for _, s := range list {
				if want == api.OK {
					want = m.give(s.Start, s.Len)
				}
			}
			x, err := runs.Fill(limit, list)
			if err != want || (x != nil) != (want == api.OK) {
				t.Errorf("Fill(%d, %v): error %d, want %d, and an index beside OK alone", limit, list, err, want)
			}
			if err == api.OK && want == api.OK {
				checkModel(t, x, m, "Fill(%d, %v)", limit, list)
			}
		}
	}
}

// TestGreat: P11.1 and P11.2, of great limits: runs of great numbers of blocks, and no sum is above all numbers.
func TestGreat(t *testing.T) {
	const most = math.MaxInt
	x := runs.New(most)
	check(t, "Give of one more than there are", x.Give(1, most), api.ErrArg)
	check(t, "Give of the limit", x.Give(most, 1), api.ErrArg)
	check(t, "Give up to the limit", x.Give(most-1, 2), api.ErrArg)
	check(t, "Give of the last block", x.Give(most-1, 1), api.OK)
	check(t, "Give of block 1", x.Give(1, 1), api.OK)
	checkRuns(t, "both ends", x, 1, 1, most-1, 1)
	check(t, "Give of all", x.Give(1, most-1), api.ErrTwice)
	check(t, "Give of all but one", x.Give(2, most-2), api.ErrTwice)
	check(t, "Give of most", x.Give(3, most-4), api.OK)
	checkRuns(t, "all but one", x, 1, 1, 3, most-3)
	checkTake(t, x, most-2, 0, api.ErrSpace)
	checkTake(t, x, most, 0, api.ErrSpace)
	check(t, "Give of what is left", x.Give(2, 1), api.OK)
	checkRuns(t, "all", x, 1, most-1)
	check(t, "Give once more", x.Give(most-1, 1), api.ErrTwice)
	check(t, "Give once more", x.Give(most/2, most/2), api.ErrTwice)
	checkTake(t, x, most, 0, api.ErrSpace)
	checkTake(t, x, most-2, 1, api.OK)
	checkRuns(t, "the last one", x, most-1, 1)
	check(t, "Give back", x.Give(1, most-2), api.OK)
	checkTake(t, x, most-1, 1, api.OK)
	checkRuns(t, "none", x)
	y := filled(t, 1<<40, 1<<39, 1<<38, 1, 1<<38, 1<<38+5, 1<<37)
	checkTake(t, y, 1<<37+1, 1, api.OK)
	checkTake(t, y, 1<<37, 1<<38+5, api.OK)
	checkTake(t, y, 1<<37, 1<<39, api.OK)
	checkRuns(t, "great runs", y, 1<<37+2, 1<<37-1, 1<<39+1<<37, 1<<37)
}

// TestWalk: P11.1 to P11.3: many calls one after the other, of indexes over blocks up to several limits, each against the model.
func TestWalk(t *testing.T) {
	for i, limit := range []int{2, 3, 5, 9, 17, 64, 255, 256, 300} {
		random := next(uint64(i))
		x, m := runs.New(limit), modelOf(limit)
		most := max(limit/8, 3)
		for step := range 3000 {
			switch random(5) {
			case 0, 1:
				start, n := random(limit+2)-1, random(most)
				check(t, "Give", x.Give(start, n), m.give(start, n))
			case 2:
				n := random(most)
				want, wantErr := m.take(n)
				checkTake(t, x, n, want, wantErr)
			case 3:
				n := x.Longest() - random(2)
				want, wantErr := m.take(n)
				checkTake(t, x, n, want, wantErr)
			case 4:
				again, err := runs.Fill(limit, x.List())
				check(t, "Fill of a List", err, api.OK)
				x = again
			}
			if limit < 64 || step%16 == 0 {
				checkModel(t, x, m, "limit %d, step %d", limit, step)
			}
		}
	}
}

// TestTwo: P11.1 and P11.2: two indexes know nothing of each other, of the same limit or of two.
func TestTwo(t *testing.T) {
	for _, limit := range []int{9, 20} {
		list := spans(1, 3, 6, 3)
		x, errX := runs.Fill(9, list)
		y, errY := runs.Fill(limit, list)
		z := runs.New(limit)
		if errX != api.OK || errY != api.OK {
			t.Fatalf("Fill: error %d and %d", errX, errY)
		}
		checkTake(t, x, 3, 1, api.OK)
		check(t, "Give", y.Give(4, 2), api.OK)
		check(t, "Give", z.Give(5, 2), api.OK)
		checkRuns(t, "of which was taken", x, 6, 3)
		checkRuns(t, "to which was given", y, 1, 8)
		checkRuns(t, "a new one", z, 5, 2)
		check(t, "Give", x.Give(9, 1), api.ErrArg)
		checkTake(t, z, 3, 0, api.ErrSpace)
		checkTake(t, y, 8, 1, api.OK)
		checkRuns(t, "of which was taken", x, 6, 3)
		checkRuns(t, "of which all was taken", y)
		checkRuns(t, "a new one", z, 5, 2)
		checkRuns(t, "one that is made now", runs.New(limit))
	}
}

// spoil changes a list, and its spare room.
func spoil(list []span) {
	list = list[:cap(list)]
	for i := range list {
		list[i] = run(-7, 77)
	}
}

// TestLeft: P2: what is handed in stays as it was, and isn't kept; what is answered is new; asking changes nothing.
func TestLeft(t *testing.T) {
	room := spans(9, 2, 1, 3, 5, 1, 12, 4, 30, 3)
	before := slices.Clone(room)
	x, err := runs.Fill(20, room[:3])
	check(t, "Fill", err, api.OK)
	_, err = runs.Fill(20, room)
	check(t, "Fill", err, api.ErrArg)
	_, err = runs.Fill(20, append(room[:1:1], run(9, 1)))
	check(t, "Fill", err, api.ErrTwice)
	if !slices.Equal(room, before) {
		t.Errorf("what was handed in: %v, want %v", room, before)
	}
	spoil(room)
	want := []int{1, 3, 5, 1, 9, 2}
	for range 3 {
		checkRuns(t, "as before", x, want...)
		list, second := x.List(), x.List()
		spoil(list)
		if !slices.Equal(second, spans(want...)) {
			t.Errorf("List, answered ahead: %v, want %v", second, spans(want...))
		}
		checkRuns(t, "as before", x, want...)
		for _, n := range append(far(), 0, 4, 19, 20) {
			x.Has(n)
			x.Take(n)
			x.Give(n, n)
			x.Give(9, n)
			x.Give(n, 2)
		}
	}
	// A list that was answered ahead of a call is as it was.
	list := x.List()
	check(t, "Give", x.Give(4, 1), api.OK)
	checkTake(t, x, 2, 9, api.OK)
	if !slices.Equal(list, spans(want...)) {
		t.Errorf("List, answered ahead: %v, want %v", list, spans(want...))
	}
	checkRuns(t, "behind the calls", x, 1, 5)
	// A list of an index makes another one that is its own.
	y, err := runs.Fill(20, x.List())
	check(t, "Fill", err, api.OK)
	checkTake(t, y, 5, 1, api.OK)
	checkRuns(t, "the first one", x, 1, 5)
	checkRuns(t, "the second one", y)
}

// TestAllEnd: P1: no call panics, and each ends, at whatever numbers; no block that isn't is ever free.
func TestAllEnd(t *testing.T) {
	numbers := append(far(), 0, 1, 2, 3, 8, 9, 10, 255, 256, 257)
	for _, limit := range numbers {
		for _, start := range numbers {
			for _, n := range numbers {
				x := runs.New(limit)
				for range 2 {
					x.Give(start, n)
					x.Give(n, start)
					x.Take(start)
					x.Give(1, n)
					x.Has(start)
				}
				x.Total()
				x.Longest()
				for _, s := range x.List() {
					if s.Start < 1 || s.Start >= limit || s.Len < 1 || s.Len > limit-s.Start {
						t.Errorf("limit %d, Give(%d, %d): List %v", limit, start, n, x.List())
					}
				}
				runs.Fill(limit, []span{run(start, n), run(n, start), run(start, n)})
			}
		}
	}
}
