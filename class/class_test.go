package class_test

import (
	"math"
	"testing"

	"taproot/api"
	"taproot/class"
)

// kind is a class as the chapter tells it: its cells' words, how many of them a block has, how many words of a block are in none, and the least number of words that is of the class.
type kind struct{ words, cells, waste, least int }

// kinds are all classes, with numbers that are written out.
func kinds() []kind {
	return []kind{
		{2, 256, 0, 1}, {3, 170, 2, 3}, {4, 128, 0, 4}, {5, 102, 2, 5},
		{6, 85, 2, 6}, {7, 73, 1, 7}, {8, 64, 0, 8}, {10, 51, 2, 9},
		{12, 42, 8, 11}, {14, 36, 8, 13}, {16, 32, 0, 15}, {18, 28, 8, 17},
		{20, 25, 12, 19}, {24, 21, 8, 21}, {28, 18, 8, 25}, {32, 16, 0, 29},
		{36, 14, 8, 33}, {40, 12, 32, 37}, {46, 11, 6, 41}, {51, 10, 2, 47},
		{56, 9, 8, 52}, {64, 8, 0, 57}, {73, 7, 1, 65}, {85, 6, 2, 74},
		{92, 5, 52, 86}, {102, 5, 2, 93}, {113, 4, 60, 103}, {128, 4, 0, 114},
		{146, 3, 74, 129}, {170, 3, 2, 147}, {204, 2, 104, 171}, {256, 2, 0, 205},
	}
}

// far are numbers that no class has, no words of a cell, no pointers and no words of data.
func far() []int {
	return []int{
		math.MinInt, math.MinInt + 1, math.MinInt + 31, math.MinInt64 / 2, math.MinInt32 - 1, math.MinInt32, -1 << 20, -16385, -16384, -512, -257, -256, -64, -63, -33, -32, -31, -8, -2, -1,
		16385, 16386, 1 << 15, 1 << 16, 1 << 20, math.MaxInt32, math.MaxInt32 + 1, 1 << 32, 1<<32 + 1, 1<<32 + 31, 1 << 62, math.MaxInt - 16384, math.MaxInt - 63, math.MaxInt - 1, math.MaxInt,
	}
}

// checkOf holds what Of answers against what it is to answer.
func checkOf(t *testing.T, words, k int, is bool) {
	t.Helper()
	if got, ok := class.Of(words); got != k || ok != is {
		t.Errorf("Of(%d): %d, %v, want %d, %v", words, got, ok, k, is)
	}
}

// checkSize holds what Size answers against what it is to answer.
func checkSize(t *testing.T, ptrs, datas, size int, err api.Errno) {
	t.Helper()
	if got, e := class.Size(ptrs, datas); got != size || e != err {
		t.Errorf("Size(%d, %d): %d, %d, want %d, %d", ptrs, datas, got, e, size, err)
	}
}

// checkNone holds that there is no such class: P6.1.
func checkNone(t *testing.T, k int) {
	t.Helper()
	if class.Right(k) {
		t.Errorf("Right(%d): true, want false", k)
	}
	if w, c, rest := class.Words(k), class.Cells(k), class.Waste(k); w != 0 || c != 0 || rest != 0 {
		t.Errorf("of class %d: Words %d, Cells %d, Waste %d, want 0 each", k, w, c, rest)
	}
}

// TestExample: the chapter's examples.
func TestExample(t *testing.T) {
	checkOf(t, 9, 7, true)
	if got := class.Cells(0); got != 256 {
		t.Errorf("Cells(0): %d, want 256", got)
	}
}

// TestClasses: P6.1, of all classes.
func TestClasses(t *testing.T) {
	list := kinds()
	if len(list) != 32 || api.Classes != 32 {
		t.Fatalf("%d classes, and api.Classes is %d, want 32", len(list), api.Classes)
	}
	for k, want := range list {
		if !class.Right(k) {
			t.Errorf("Right(%d): false, want true", k)
		}
		if got := class.Words(k); got != want.words {
			t.Errorf("Words(%d): %d, want %d", k, got, want.words)
		}
		if got := class.Cells(k); got != want.cells {
			t.Errorf("Cells(%d): %d, want %d", k, got, want.cells)
		}
		if got := class.Waste(k); got != want.waste {
			t.Errorf("Waste(%d): %d, want %d", k, got, want.waste)
		}
	}
}

// TestBlockOfCells: P6.1: cell by cell is laid into a block of 512 words, till there is no room for one more.
func TestBlockOfCells(t *testing.T) {
	for k, want := range kinds() {
		left, cells := 512, 0
		for left >= want.words {
			left -= want.words
			cells++
		}
		if class.Cells(k) != cells || class.Waste(k) != left {
			t.Errorf("of class %d: Cells %d, Waste %d, want %d, %d", k, class.Cells(k), class.Waste(k), cells, left)
		}
	}
}

// TestMost: P6.1, of Most: no class has greater cells, and the last one has such.
func TestMost(t *testing.T) {
	if got := class.Most(); got != 256 {
		t.Errorf("Most: %d, want 256", got)
	}
	greatest := 0
	for k := range 32 {
		greatest = max(greatest, class.Words(k))
	}
	if greatest != class.Most() || class.Words(31) != class.Most() {
		t.Errorf("the greatest cell has %d words, that of class 31 %d, want Most, %d", greatest, class.Words(31), class.Most())
	}
}

// TestNoClass: P6.1, of numbers that no class has: each answer is 0.
func TestNoClass(t *testing.T) {
	for _, k := range append(far(), 32, 33, 63, 64, 255, 256, 512, 16384) {
		checkNone(t, k)
	}
	for further := range 1 << 12 {
		checkNone(t, 32+further)
		checkNone(t, -1-further)
	}
}

// TestOf: P6.2, of Of: each number of words from 1 to 256.
func TestOf(t *testing.T) {
	words := 1
	for k, of := range kinds() {
		if words != of.least {
			t.Fatalf("class %d begins with %d words, want %d", k, words, of.least)
		}
		for ; words <= of.words; words++ {
			checkOf(t, words, k, true)
		}
	}
	if words != 257 {
		t.Errorf("%d numbers of words have a class, want 256", words-1)
	}
}

// TestOfEdges: P6.2, of Of, by numbers that are written out.
func TestOfEdges(t *testing.T) {
	rows := []struct{ words, k int }{
		{1, 0}, {2, 0}, {3, 1}, {4, 2}, {8, 6}, {9, 7}, {10, 7}, {11, 8}, {12, 8}, {16, 10}, {17, 11},
		{47, 19}, {51, 19}, {52, 20}, {64, 21}, {65, 22}, {73, 22}, {74, 23}, {128, 27}, {129, 28},
		{170, 29}, {171, 30}, {204, 30}, {205, 31}, {255, 31}, {256, 31},
	}
	for _, r := range rows {
		checkOf(t, r.words, r.k, true)
	}
}

// TestOfNone: P6.2, of Of: of what has no words, and of what has more than the greatest cell, there is no class.
func TestOfNone(t *testing.T) {
	for _, words := range append(far(), 0, 257, 258, 511, 512, 513, 1<<14) {
		checkOf(t, words, 0, false)
	}
	for further := range 1 << 15 {
		checkOf(t, 257+further, 0, false)
		checkOf(t, -further, 0, false)
	}
}

// TestFits: P6.3, and that no class below has room for what is of a class: P6.2.
func TestFits(t *testing.T) {
	for words := 1; words <= 256; words++ {
		k, is := class.Of(words)
		if !is || !class.Right(k) {
			t.Fatalf("Of(%d): %d, %v, want a class", words, k, is)
		}
		if class.Words(k) < words {
			t.Errorf("%d words are of class %d, whose cells have %d", words, k, class.Words(k))
		}
		for below := range k {
			if class.Words(below) >= words {
				t.Errorf("%d words are of class %d, but cells of class %d have %d", words, k, below, class.Words(below))
			}
		}
	}
}

// TestRise: P6.3: the cells of each class have more words than those of the class below, and what fills a cell is of its class.
func TestRise(t *testing.T) {
	for k := range 32 {
		if k > 0 && class.Words(k) <= class.Words(k-1) {
			t.Errorf("cells of class %d have %d words, those of the class below %d", k, class.Words(k), class.Words(k-1))
		}
		checkOf(t, class.Words(k), k, true)
	}
}

// TestSize: P6.2, of Size, by numbers that are written out.
func TestSize(t *testing.T) {
	rows := []struct{ ptrs, datas, size int }{
		{0, 0, 1}, {1, 0, 2}, {0, 1, 2}, {1, 1, 3}, {2, 5, 8}, {5, 2, 8}, {62, 0, 63}, {63, 0, 64}, {63, 1, 65},
		{0, 63, 64}, {0, 64, 65}, {0, 255, 256}, {1, 255, 257}, {0, 256, 257}, {63, 192, 256}, {63, 193, 257},
		{0, 599, 600}, {0, 16383, 16384}, {0, 16384, 16385}, {1, 16384, 16386}, {62, 16384, 16447}, {63, 16383, 16447}, {63, 16384, 16448},
	}
	for _, r := range rows {
		checkSize(t, r.ptrs, r.datas, r.size, api.OK)
	}
}

// TestSizeOfAll: P6.2, of Size: of all pointers and words of data that there may be, and of those around them.
func TestSizeOfAll(t *testing.T) {
	for ptrs := -2; ptrs <= 66; ptrs++ {
		for datas := -2; datas <= 16387; datas++ {
			if ptrs < 0 || ptrs > 63 || datas < 0 || datas > 16384 {
				checkSize(t, ptrs, datas, 0, api.ErrSize)
				continue
			}
			checkSize(t, ptrs, datas, 1+ptrs+datas, api.OK)
		}
	}
}

// TestSizeWrong: P6.2, of Size: one wrong number is enough, and a sum of two that is in bounds again doesn't help.
func TestSizeWrong(t *testing.T) {
	wrong := append(far(), -64, -16384)
	for _, n := range append(wrong, 64, 65, 100, 127, 128, 256, 16384) {
		for _, datas := range []int{0, 1, 8, 63, 64, 1000, 16383, 16384} {
			checkSize(t, n, datas, 0, api.ErrSize)
		}
	}
	for _, n := range wrong {
		for _, ptrs := range []int{0, 1, 8, 62, 63} {
			checkSize(t, ptrs, n, 0, api.ErrSize)
		}
		for _, m := range wrong {
			checkSize(t, n, m, 0, api.ErrSize)
		}
		checkSize(t, n, -n, 0, api.ErrSize)
		checkSize(t, -n, n, 0, api.ErrSize)
		checkSize(t, n, 10-n, 0, api.ErrSize)
	}
}

// TestSizeHasClass: P6.3, of what objects have: just those of at most 256 words are of a class, and it has room for them.
func TestSizeHasClass(t *testing.T) {
	for ptrs := range 64 {
		for datas := range 400 {
			size, err := class.Size(ptrs, datas)
			if err != api.OK {
				t.Fatalf("Size(%d, %d): error %d", ptrs, datas, err)
			}
			k, is := class.Of(size)
			if is != (1+ptrs+datas <= 256) {
				t.Fatalf("Of(%d): %d, %v", size, k, is)
			}
			if is && (class.Words(k) < size || k > 0 && class.Words(k-1) >= size) {
				t.Fatalf("%d words are of class %d, whose cells have %d", size, k, class.Words(k))
			}
		}
	}
}

// TestLeft: P2: what is answered hangs on the arguments alone, whatever was asked before.
func TestLeft(t *testing.T) {
	for range 3 {
		checkNone(t, 32)
		checkNone(t, -1)
		checkOf(t, 0, 0, false)
		checkOf(t, 257, 0, false)
		checkOf(t, 9, 7, true)
		checkSize(t, 64, 0, 0, api.ErrSize)
		checkSize(t, 63, 16384, 16448, api.OK)
		if !class.Right(31) || class.Words(31) != 256 || class.Cells(30) != 2 || class.Waste(30) != 104 || class.Most() != 256 {
			t.Errorf("of classes 30 and 31: another answer than before")
		}
		for k, want := range kinds() {
			if class.Words(k) != want.words {
				t.Errorf("Words(%d): %d, want %d", k, class.Words(k), want.words)
			}
		}
	}
}

// TestAllEnd: P1: no call panics, at the farthest arguments together.
func TestAllEnd(t *testing.T) {
	numbers := append(far(), 0, 1, 31, 32, 33, 63, 64, 255, 256, 257, 511, 512, 513, 16384)
	for _, n := range numbers {
		class.Right(n)
		class.Words(n)
		class.Cells(n)
		class.Waste(n)
		class.Of(n)
		for _, m := range numbers {
			class.Size(n, m)
		}
	}
}
