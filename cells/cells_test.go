package cells_test

import (
	"math"
	"slices"
	"testing"

	"taproot/cells"
	"taproot/geom"
)

// cell is a block and a number there.
type cell = cells.Cell

// of is a device of so many blocks.
func of(blocks int) geom.Geometry {
	return geom.Geometry{Blocks: blocks}
}

// widths are how many words a cell of each class has.
func widths() []int {
	return []int{
		2, 3, 4, 5, 6, 7, 8, 10, 12, 14, 16, 18, 20, 24, 28, 32,
		36, 40, 46, 51, 56, 64, 73, 85, 92, 102, 113, 128, 146, 170, 204, 256,
	}
}

// spot is what the model knows of a word of a block: the cell's number, and how many words it is behind that one's first; index -1: it is in none.
type spot struct{ index, behind int }

// laid are all words of a block of a class: cells are laid in it one by one, as long as there is room.
func laid(k int) []spot {
	width := widths()[k]
	var list []spot
	for index := 0; 512-len(list) >= width; index++ {
		for behind := range width {
			list = append(list, spot{index, behind})
		}
	}
	for len(list) < 512 {
		list = append(list, spot{-1, 0})
	}
	return list
}

// firsts are the first words of all cells of a block of a class.
func firsts(k, block int) []int {
	var list []int
	for word, s := range laid(k) {
		if s.index >= 0 && s.behind == 0 {
			list = append(list, 512*block+word)
		}
	}
	return list
}

// far are numbers that no class, block, cell or address has, whatever the geometry.
func far() []int {
	return []int{
		math.MinInt, math.MinInt + 1, math.MinInt + 512, math.MinInt64 / 512, math.MinInt32 - 1, math.MinInt32, -1 << 29, -1 << 20, -1024, -513, -512, -511, -257, -256, -33, -32, -31, -8, -3, -2, -1,
		1 << 29, 1<<29 + 1, 1 << 30, math.MaxInt32, math.MaxInt32 + 1, 1 << 32, 1<<32 + 1, 1 << 52, 1<<54 - 1, 1 << 54, 1<<55 + 1, 1 << 61, 1 << 62,
		math.MaxInt - 512, math.MaxInt - 511, math.MaxInt - 256, math.MaxInt - 1, math.MaxInt,
	}
}

// wrongClasses are numbers that no class has.
func wrongClasses() []int {
	return append(far(), 32, 33, 63, 64, 255, 256, 512, 1024, 1030)
}

// sizes are geometries of all the numbers that the chapter speaks of, and others between them.
func sizes() []int {
	return []int{0, 1, 2, 3, 4, 8, 255, 256, 257, 1000, 1<<20 - 1, 1 << 20}
}

// blocksOf are blocks of a device at its edges and between them, from 1 on.
func blocksOf(blocks int) []int {
	var list []int
	for _, block := range []int{1, 2, 3, 7, 128, 254, 255, 256, 511, 512, 65535, blocks / 2, blocks - 2, blocks - 1} {
		if block >= 1 && block < blocks && !slices.Contains(list, block) {
			list = append(list, block)
		}
	}
	return list
}

// wrongBlocks are numbers of no block that cells are in.
func wrongBlocks(blocks int) []int {
	return append(far(), 0, blocks, blocks+1, blocks+2, 2*blocks+1, blocks+256)
}

// next is a generator of numbers below n, always the same ones.
func next(seed uint64) func(n int) int {
	return func(n int) int {
		seed = seed*6364136223846793005 + 1442695040888963407
		return int(seed>>33) % n
	}
}

// checkAddress holds what Address answers against the address that is asked for.
func checkAddress(t *testing.T, blocks, k int, c cell, want int) {
	t.Helper()
	if got := cells.Address(of(blocks), k, c); got != want {
		t.Errorf("of %d blocks: Address of %v of class %d: %d, want %d", blocks, c, k, got, want)
	}
}

// checkAt holds what At answers against what is asked for.
func checkAt(t *testing.T, blocks, k, at int, want cell, wantIs bool) {
	t.Helper()
	if got, is := cells.At(of(blocks), k, at); got != want || is != wantIs {
		t.Errorf("of %d blocks: At(%d) of class %d: %v, %v, want %v, %v", blocks, at, k, got, is, want, wantIs)
	}
}

// checkHolding holds what Holding answers against what is asked for.
func checkHolding(t *testing.T, blocks, k, at int, want cell, wantIs bool) {
	t.Helper()
	if got, is := cells.Holding(of(blocks), k, at); got != want || is != wantIs {
		t.Errorf("of %d blocks: Holding(%d) of class %d: %v, %v, want %v, %v", blocks, at, k, got, is, want, wantIs)
	}
}

// checkNone: no cell begins at the address, and it is in none.
func checkNone(t *testing.T, blocks, k, at int) {
	t.Helper()
	checkAt(t, blocks, k, at, cell{}, false)
	checkHolding(t, blocks, k, at, cell{}, false)
}

// checkAll holds what All goes over against the addresses that are asked for, in their order.
func checkAll(t *testing.T, blocks, k, block int, want []int) {
	t.Helper()
	if got := slices.Collect(cells.All(of(blocks), k, block)); !slices.Equal(got, want) {
		t.Errorf("of %d blocks: All of block %d of class %d: %v, want %v", blocks, block, k, got, want)
	}
}

// checkLines holds what Lines answers against what is asked for.
func checkLines(t *testing.T, at, words, first, behind int) {
	t.Helper()
	if got, end := cells.Lines(at, words); got != first || end != behind {
		t.Errorf("Lines(%d, %d): %d, %d, want %d, %d", at, words, got, end, first, behind)
	}
}

// TestExample: the chapter's example.
func TestExample(t *testing.T) {
	checkAddress(t, 4, 0, cell{Block: 2, Index: 3}, 1030)
}

// TestAddress: P9.1, by numbers that are written out: the first and the last cell of a block, the first and the last block, several classes.
func TestAddress(t *testing.T) {
	rows := []struct{ blocks, k, block, index, at int }{
		{2, 0, 1, 0, 512}, {2, 0, 1, 1, 514}, {2, 0, 1, 255, 1022}, {4, 0, 3, 255, 2046}, {4, 0, 2, 0, 1024},
		{2, 1, 1, 0, 512}, {2, 1, 1, 1, 515}, {2, 1, 1, 169, 1019}, {4, 2, 2, 127, 1532}, {4, 4, 1, 84, 1016},
		{4, 7, 1, 50, 1012}, {4, 7, 3, 1, 1546}, {4, 19, 1, 9, 971}, {4, 30, 2, 1, 1228}, {4, 31, 1, 0, 512}, {4, 31, 1, 1, 768}, {4, 31, 3, 1, 1792},
		{256, 0, 255, 0, 130560}, {256, 0, 255, 255, 131070}, {256, 31, 255, 1, 130816}, {256, 22, 128, 6, 65974},
		{1 << 20, 0, 1<<20 - 1, 255, 536870910}, {1 << 20, 31, 1<<20 - 1, 0, 536870400}, {1 << 20, 31, 1<<20 - 1, 1, 536870656}, {1 << 20, 5, 1, 72, 1016},
	}
	for _, r := range rows {
		c := cell{r.block, r.index}
		checkAddress(t, r.blocks, r.k, c, r.at)
		checkAt(t, r.blocks, r.k, r.at, c, true)
		checkHolding(t, r.blocks, r.k, r.at, c, true)
		checkHolding(t, r.blocks, r.k, r.at+widths()[r.k]-1, c, true)
	}
}

// TestNoAddress: P9.1, by numbers that are written out: one block or one cell too far, and one class too many.
func TestNoAddress(t *testing.T) {
	rows := []struct{ blocks, k, block, index int }{
		{4, 0, 0, 0}, {4, 0, 0, 3}, {4, 0, -1, 3}, {4, 0, 4, 0}, {4, 0, 4, 3}, {4, 0, 5, 0}, {4, 0, 2, -1}, {4, 0, 2, 256}, {4, 0, 2, 257}, {4, 0, 1, 512},
		{4, 1, 1, 170}, {4, 7, 1, 51}, {4, 30, 1, 2}, {4, 31, 1, 2}, {4, 31, 3, -1}, {4, -1, 2, 0}, {4, 32, 2, 0}, {4, 33, 2, 0},
		{0, 0, 0, 0}, {0, 0, 1, 0}, {0, 0, -1, 0}, {1, 0, 0, 0}, {1, 0, 1, 0}, {2, 0, 2, 0}, {256, 0, 256, 0}, {256, 31, 256, 1}, {1 << 20, 0, 1 << 20, 0}, {1 << 20, 31, 1 << 20, 1},
	}
	for _, r := range rows {
		checkAddress(t, r.blocks, r.k, cell{r.block, r.index}, -1)
	}
}

// TestWords: P9.1, by numbers that are written out: words at which no cell begins, and words that are in none.
func TestWords(t *testing.T) {
	const none = -1
	rows := []struct{ blocks, k, at, block, index int }{
		{4, 0, 513, 1, 0}, {4, 0, 1023, 1, 255}, {4, 0, 1031, 2, 3}, {4, 0, 2047, 3, 255}, {4, 0, 511, none, 0}, {4, 0, 2049, none, 0}, {4, 0, 1, none, 0},
		{4, 1, 513, 1, 0}, {4, 1, 514, 1, 0}, {4, 1, 1021, 1, 169}, {4, 1, 1022, none, 0}, {4, 1, 1023, none, 0}, {4, 1, 1025, 2, 0},
		{4, 7, 1013, 1, 50}, {4, 7, 1021, 1, 50}, {4, 7, 1022, none, 0}, {4, 7, 1023, none, 0},
		{4, 24, 971, 1, 4}, {4, 24, 972, none, 0}, {4, 24, 1000, none, 0}, {4, 24, 1023, none, 0}, {4, 29, 1023, none, 0}, {4, 29, 1021, 1, 2},
		{4, 30, 919, 1, 1}, {4, 30, 920, none, 0}, {4, 30, 1023, none, 0}, {4, 31, 767, 1, 0}, {4, 31, 769, 1, 1}, {4, 31, 2047, 3, 1},
		{256, 31, 131071, 255, 1}, {256, 1, 131070, none, 0}, {256, 0, 131073, none, 0}, {1 << 20, 31, 536870911, 1<<20 - 1, 1}, {1 << 20, 30, 536870911, none, 0}, {1 << 20, 0, 536870913, none, 0},
	}
	for _, r := range rows {
		checkAt(t, r.blocks, r.k, r.at, cell{}, false)
		if r.block == none {
			checkHolding(t, r.blocks, r.k, r.at, cell{}, false)
		} else {
			checkHolding(t, r.blocks, r.k, r.at, cell{r.block, r.index}, true)
		}
	}
}

// TestAllCells: P9.1 to P9.3, against the model: each word of blocks at the edges and between them, of all classes; Address, At, Holding and All agree.
func TestAllCells(t *testing.T) {
	for _, blocks := range sizes() {
		for _, block := range blocksOf(blocks) {
			for k := range 32 {
				for word, s := range laid(k) {
					at, c := 512*block+word, cell{block, s.index}
					switch {
					case s.index < 0:
						checkNone(t, blocks, k, at)
					case s.behind > 0:
						checkAt(t, blocks, k, at, cell{}, false)
						checkHolding(t, blocks, k, at, c, true)
					default:
						checkAddress(t, blocks, k, c, at)
						checkAt(t, blocks, k, at, c, true)
						checkHolding(t, blocks, k, at, c, true)
					}
				}
				checkAll(t, blocks, k, block, firsts(k, block))
			}
		}
	}
}

// TestOverlap: P9.3, by a count of each word: none is in two cells, and each cell's last word is in its block.
func TestOverlap(t *testing.T) {
	const blocks = 5
	for k, width := range widths() {
		var in [blocks * 512]int
		for block := -1; block <= blocks; block++ {
			for index := -1; index <= 257; index++ {
				at := cells.Address(of(blocks), k, cell{block, index})
				if at < 0 {
					continue
				}
				if at < 512*block || at+width > 512*block+512 {
					t.Errorf("cell %d of class %d: %d words from %d on, not in block %d", index, k, width, at, block)
				}
				for word := at; word < at+width && word < len(in); word++ {
					in[word]++
				}
			}
		}
		for word, count := range in {
			want := 0
			if word >= 512 && laid(k)[word%512].index >= 0 {
				want = 1
			}
			if count != want {
				t.Errorf("word %d is in %d cells of class %d, want %d", word, count, k, want)
			}
		}
	}
}

// TestWrongClass: P9.1 and P9.2, of classes that aren't.
func TestWrongClass(t *testing.T) {
	for _, k := range wrongClasses() {
		for _, blocks := range sizes() {
			for _, block := range append(blocksOf(blocks), 0, -1, blocks) {
				for _, index := range []int{-1, 0, 1, 2, 255, 256} {
					checkAddress(t, blocks, k, cell{block, index}, -1)
				}
				for _, word := range []int{0, 1, 2, 6, 255, 256, 511} {
					checkNone(t, blocks, k, 512*block+word)
				}
				checkAll(t, blocks, k, block, nil)
			}
			for _, at := range far() {
				checkNone(t, blocks, k, at)
			}
		}
	}
}

// TestWrongBlock: P9.1 and P9.2, of blocks that no cells are in: block 0, those below it, and those behind the last.
func TestWrongBlock(t *testing.T) {
	for _, blocks := range sizes() {
		for _, block := range wrongBlocks(blocks) {
			for _, k := range []int{0, 1, 7, 24, 30, 31} {
				for _, index := range []int{-256, -1, 0, 1, 2, 255, 256} {
					checkAddress(t, blocks, k, cell{block, index}, -1)
				}
				checkAll(t, blocks, k, block, nil)
			}
		}
	}
}

// TestWrongIndex: P9.1, of cells that a block of the class doesn't have.
func TestWrongIndex(t *testing.T) {
	for _, blocks := range sizes() {
		for _, block := range blocksOf(blocks) {
			for k := range 32 {
				count := len(firsts(k, block))
				for _, index := range append(far(), count, count+1, 256, 257, 512, 1024) {
					checkAddress(t, blocks, k, cell{block, index}, -1)
				}
			}
		}
	}
}

// TestWrongAt: P9.1, of addresses that are in no block that cells are in: below 0, of block 0, behind the last block, and far ones.
func TestWrongAt(t *testing.T) {
	for _, blocks := range sizes() {
		for k := range 32 {
			list := far()
			for at := -600; at < 512; at++ {
				list = append(list, at)
			}
			for word := range 600 {
				list = append(list, max(512*blocks, 512)+word)
			}
			for _, at := range list {
				checkNone(t, blocks, k, at)
			}
		}
	}
}

// TestMany: P9.1 and P9.3, against the model, with numbers of all kinds.
func TestMany(t *testing.T) {
	number := next(9)
	var blockOf [32][]spot
	for k := range 32 {
		blockOf[k] = laid(k)
	}
	found := 0
	for range 300000 {
		blocks, k := number(1<<20+1), number(32)
		if number(2) == 0 {
			blocks = number(257)
		}
		at := number(512*blocks + 700)
		s := blockOf[k][at%512]
		c := cell{at / 512, s.index}
		if c.Block < 1 || c.Block >= blocks || s.index < 0 {
			checkNone(t, blocks, k, at)
			continue
		}
		found++
		checkHolding(t, blocks, k, at, c, true)
		checkAddress(t, blocks, k, c, at-s.behind)
		checkAt(t, blocks, k, at-s.behind, c, true)
	}
	if found < 150000 {
		t.Errorf("only %d words of cells: that is no test", found)
	}
}

// TestAll: P9.2, of All, by addresses that are written out.
func TestAll(t *testing.T) {
	checkAll(t, 4, 31, 1, []int{512, 768})
	checkAll(t, 4, 31, 3, []int{1536, 1792})
	checkAll(t, 4, 30, 2, []int{1024, 1228})
	checkAll(t, 4, 29, 1, []int{512, 682, 852})
	checkAll(t, 256, 24, 255, []int{130560, 130652, 130744, 130836, 130928})
	checkAll(t, 1<<20, 27, 1<<20-1, []int{536870400, 536870528, 536870656, 536870784})
	checkAll(t, 4, 31, 0, nil)
	checkAll(t, 4, 31, 4, nil)
	checkAll(t, 4, 31, -1, nil)
	checkAll(t, 4, 32, 1, nil)
	checkAll(t, 4, -1, 1, nil)
	checkAll(t, 0, 0, 0, nil)
	checkAll(t, 1, 0, 1, nil)
	checkAll(t, 2, 31, 1, []int{512, 768})
}

// TestAllAgain: P9.2 and rule 5: an iterator is gone over twice, and broken off at each place; then it is gone over whole again.
func TestAllAgain(t *testing.T) {
	for _, k := range []int{0, 1, 7, 24, 31} {
		want := firsts(k, 2)
		seq := cells.All(of(4), k, 2)
		for range 2 {
			if got := slices.Collect(seq); !slices.Equal(got, want) {
				t.Errorf("All of class %d: %v, want %v", k, got, want)
			}
		}
		for stop := range want {
			var got []int
			for at := range seq {
				got = append(got, at)
				if len(got) == stop+1 {
					break
				}
			}
			if !slices.Equal(got, want[:stop+1]) {
				t.Errorf("All of class %d, broken off: %v, want %v", k, got, want[:stop+1])
			}
		}
		if got := slices.Collect(seq); !slices.Equal(got, want) {
			t.Errorf("All of class %d, when it was broken off: %v, want %v", k, got, want)
		}
	}
}

// TestAllNested: rule 5: an iterator is gone over while it is gone over.
func TestAllNested(t *testing.T) {
	seq := cells.All(of(4), 29, 1)
	var got []int
	for a := range seq {
		for b := range seq {
			got = append(got, a-b)
		}
	}
	if want := []int{0, -170, -340, 170, 0, -170, 340, 170, 0}; !slices.Equal(got, want) {
		t.Errorf("differences: %v, want %v", got, want)
	}
}

// TestLines: P9.2, of Lines, by numbers that are written out: words within a line and over several, at borders, and one word alone.
func TestLines(t *testing.T) {
	rows := []struct{ at, words, first, behind int }{
		{0, 1, 0, 1}, {7, 1, 0, 1}, {8, 1, 1, 2}, {0, 7, 0, 1}, {0, 8, 0, 1}, {0, 9, 0, 2}, {1, 7, 0, 1}, {1, 8, 0, 2}, {7, 2, 0, 2}, {7, 9, 0, 2}, {7, 10, 0, 3},
		{8, 8, 1, 2}, {8, 9, 1, 3}, {512, 1, 64, 65}, {512, 6, 64, 65}, {518, 6, 64, 66}, {512, 512, 64, 128}, {1030, 2, 128, 129}, {1023, 2, 127, 129}, {511, 1, 63, 64},
		{600, 16, 75, 77}, {601, 16, 75, 78}, {0, 131072, 0, 16384}, {131071, 1, 16383, 16384}, {131064, 8, 16383, 16384}, {536870911, 1, 67108863, 67108864}, {0, 536870912, 0, 67108864},
	}
	for _, r := range rows {
		checkLines(t, r.at, r.words, r.first, r.behind)
	}
}

// TestNoLines: P9.2, of Lines: addresses below 0, and less than one word.
func TestNoLines(t *testing.T) {
	for _, n := range far() {
		if n >= 0 {
			continue
		}
		for _, other := range append(far(), 0, 1, 2, 7, 8, 9, 512) {
			checkLines(t, n, other, 0, 0)
			checkLines(t, other, n, 0, 0)
		}
	}
	for _, at := range append(far(), 0, 1, 7, 8, 512, 131071) {
		checkLines(t, at, 0, 0, 0)
	}
}

// TestLinesOfAll: P9.2, of Lines, against a walk from word to word.
func TestLinesOfAll(t *testing.T) {
	for at := range 600 {
		first := -1
		line, room := 0, 8
		for word := range at + 530 {
			if room == 0 {
				line, room = line+1, 8
			}
			room--
			if word == at {
				first = line
			}
			if word >= at {
				checkLines(t, at, word-at+1, first, line+1)
			}
		}
	}
}

// TestFarLines: P9.2, of Lines, by numbers that are written out: of the greatest numbers no sum wraps round.
func TestFarLines(t *testing.T) {
	const most = math.MaxInt
	rows := []struct{ at, words, first, behind int }{
		{most, 1, 1<<60 - 1, 1 << 60}, {most, 2, 1<<60 - 1, 1<<60 + 1}, {most, 9, 1<<60 - 1, 1<<60 + 1}, {most, 10, 1<<60 - 1, 1<<60 + 2}, {most - 7, 8, 1<<60 - 1, 1 << 60}, {most - 7, 9, 1<<60 - 1, 1<<60 + 1},
		{0, most, 0, 1 << 60}, {1, most, 0, 1 << 60}, {2, most, 0, 1<<60 + 1}, {0, most - 7, 0, 1<<60 - 1}, {most, most, 1<<60 - 1, 1 << 61}, {1 << 62, 1 << 62, 1 << 59, 1 << 60},
	}
	for _, r := range rows {
		checkLines(t, r.at, r.words, r.first, r.behind)
	}
}

// TestLeft: P2: the same calls answer the same, whatever was called between; a geometry and a cell that were handed in are as they were.
func TestLeft(t *testing.T) {
	g, other := of(4), of(2)
	c := cell{2, 3}
	seq := cells.All(g, 31, 2)
	for range 3 {
		if got := cells.Address(g, 0, c); got != 1030 {
			t.Errorf("Address: %d, want 1030", got)
		}
		if got := cells.Address(other, 0, c); got != -1 {
			t.Errorf("Address: %d, want -1", got)
		}
		checkAt(t, 4, 0, 1030, c, true)
		checkAt(t, 2, 0, 1030, cell{}, false)
		checkAt(t, 4, 0, 1031, cell{}, false)
		checkHolding(t, 4, 0, 1031, c, true)
		checkHolding(t, 4, 32, 1031, cell{}, false)
		checkAll(t, 2, 31, 2, nil)
		checkLines(t, 1030, 2, 128, 129)
		checkLines(t, -1, 2, 0, 0)
		if got := slices.Collect(seq); !slices.Equal(got, []int{1024, 1280}) {
			t.Errorf("All: %v, want 1024 and 1280", got)
		}
		if g != of(4) || other != of(2) || c != (cell{2, 3}) {
			t.Errorf("what was handed in: %v, %v, %v", g, other, c)
		}
	}
	// An iterator goes by the geometry that it was made for, not by what became of that.
	g.Blocks = 1
	if got := slices.Collect(seq); !slices.Equal(got, []int{1024, 1280}) {
		t.Errorf("All, when the geometry was changed: %v, want 1024 and 1280", got)
	}
}

// TestAllEnd: P1: no call panics, and each ends, at the farthest arguments together.
func TestAllEnd(t *testing.T) {
	numbers := append(far(), 0, 1, 2, 3, 31, 32, 255, 256, 511, 512, 513, 1<<20, 1<<20+1)
	for _, blocks := range numbers {
		for _, k := range append(far(), 0, 1, 24, 30, 31, 32) {
			for _, n := range numbers {
				cells.At(of(blocks), k, n)
				cells.Holding(of(blocks), k, n)
				for range cells.All(of(blocks), k, n) {
				}
				for _, index := range []int{math.MinInt, -1, 0, 1, 255, 256, math.MaxInt} {
					cells.Address(of(blocks), k, cell{n, index})
				}
			}
		}
	}
	for _, at := range numbers {
		for _, words := range numbers {
			cells.Lines(at, words)
		}
	}
}
