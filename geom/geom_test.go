package geom_test

import (
	"math"
	"testing"

	"taproot/api"
	"taproot/geom"
)

// of is a device of so many blocks.
func of(blocks int) geom.Geometry {
	return geom.Geometry{Blocks: blocks}
}

// row is a call's argument, and what it is to answer.
type row struct{ in, want int }

// checkRows holds what a call answers against numbers that are written out.
func checkRows(t *testing.T, what string, blocks int, call func(int) int, rows ...row) {
	t.Helper()
	for _, r := range rows {
		if got := call(r.in); got != r.want {
			t.Errorf("of %d blocks: %s(%d): %d, want %d", blocks, what, r.in, got, r.want)
		}
	}
}

// within is the number of a row that stands for true.
func within(is bool) int {
	if is {
		return 1
	}
	return 0
}

// far are numbers that no word, block or place of a device has, whatever its geometry.
func far() []int {
	return []int{
		math.MinInt, math.MinInt + 1, math.MinInt64 / 512, math.MinInt32 - 1, math.MinInt32, -1 << 20, -1024, -513, -512, -511, -257, -256, -64, -8, -2, -1,
		1 << 29, math.MaxInt32, math.MaxInt32 + 1, 1 << 52, 1<<54 - 1, 1 << 54, math.MaxInt - 511, math.MaxInt - 1, math.MaxInt,
	}
}

// some are geometries of all the numbers that the chapter speaks of, and their neighbours.
func some() []int {
	return []int{0, 1, 2, 3, 4, 5, 7, 8, 31, 32, 255, 256, 257, 300, 511, 512, 513, 1 << 10}
}

// TestExample: the chapter's example.
func TestExample(t *testing.T) {
	g := of(4)
	if got := g.BlockOf(600); got != 1 {
		t.Errorf("BlockOf(600): %d, want 1", got)
	}
	if got := g.Header(3); got != 259 {
		t.Errorf("Header(3): %d, want 259", got)
	}
}

// TestPlaces: where things lie in block 0, and that none of them lies on another one: P4.1, P4.2.
func TestPlaces(t *testing.T) {
	if geom.Super != 0 || geom.Slot != 64 || geom.Headers != 256 {
		t.Errorf("Super %d, Slot %d, Headers %d, want 0, 64, 256", geom.Super, geom.Slot, geom.Headers)
	}
	g := of(api.MostBlock)
	last := geom.Super + api.Line - 1
	for _, p := range []struct{ first, words int }{
		{geom.SlotAt(0), 2 * api.Line}, {geom.SlotAt(1), 2 * api.Line}, {geom.Headers, api.MostBlock},
	} {
		if p.first <= last {
			t.Errorf("%d is at or ahead of %d, where something else lies", p.first, last)
		}
		last = p.first + p.words - 1
	}
	if last != g.Header(g.Blocks-1) || g.BlockOf(last) != 0 {
		t.Errorf("the last header: %d, in block %d, want %d, in block 0", g.Header(g.Blocks-1), g.BlockOf(last), last)
	}
}

// TestRight: P4.1, of Right: from 2 to 256 blocks.
func TestRight(t *testing.T) {
	rows := []struct {
		blocks int
		want   bool
	}{
		{math.MinInt, false}, {math.MinInt + 2, false}, {-256, false}, {-2, false}, {-1, false},
		{0, false}, {1, false}, {2, true}, {3, true}, {4, true}, {128, true}, {255, true}, {256, true},
		{257, false}, {258, false}, {512, false}, {1 << 20, false}, {1<<20 + 2, false}, {1 << 32, false}, {1<<32 + 2, false}, {math.MaxInt, false},
	}
	for _, r := range rows {
		if got := of(r.blocks).Right(); got != r.want {
			t.Errorf("Right of %d blocks: %v, want %v", r.blocks, got, r.want)
		}
	}
	right := 0
	for blocks := range 1<<20 + 1 {
		right += within(of(blocks).Right())
	}
	if right != 255 {
		t.Errorf("%d geometries are right, want 255", right)
	}
}

// TestWords: P4.1, of Words and Most, by numbers that are written out.
func TestWords(t *testing.T) {
	rows := []struct{ blocks, words, most int }{
		{0, 0, 0}, {1, 512, 0}, {2, 1024, 512}, {3, 1536, 1024}, {4, 2048, 1536},
		{255, 130560, 130048}, {256, 131072, 130560}, {257, 131584, 131072}, {1 << 20, 536870912, 536870400},
	}
	for _, r := range rows {
		g := of(r.blocks)
		if g.Words() != r.words || g.Most() != r.most {
			t.Errorf("of %d blocks: Words %d, Most %d, want %d, %d", r.blocks, g.Words(), g.Most(), r.words, r.most)
		}
	}
}

// TestWordsOfAll: P4.1, of Words and Most: each further block has 512 words, up to 2^20 blocks.
func TestWordsOfAll(t *testing.T) {
	words := 0
	for blocks := range 1<<20 + 1 {
		g := of(blocks)
		most := 0
		if blocks > 0 {
			most = words - 512
		}
		if g.Words() != words || g.Most() != most {
			t.Fatalf("of %d blocks: Words %d, Most %d, want %d, %d", blocks, g.Words(), g.Most(), words, most)
		}
		words += 512
	}
}

// TestBlockOf: P4.1, of BlockOf, by numbers that are written out.
func TestBlockOf(t *testing.T) {
	checkRows(t, "BlockOf", 0, of(0).BlockOf, row{-1, -1}, row{0, -1}, row{1, -1}, row{511, -1}, row{512, -1})
	checkRows(t, "BlockOf", 1, of(1).BlockOf, row{-1, -1}, row{0, 0}, row{1, 0}, row{511, 0}, row{512, -1}, row{513, -1})
	checkRows(t, "BlockOf", 2, of(2).BlockOf, row{-512, -1}, row{-1, -1}, row{0, 0}, row{511, 0}, row{512, 1}, row{1023, 1}, row{1024, -1})
	checkRows(t, "BlockOf", 4, of(4).BlockOf, row{0, 0}, row{511, 0}, row{512, 1}, row{600, 1}, row{1023, 1}, row{1024, 2}, row{1535, 2}, row{1536, 3}, row{2047, 3}, row{2048, -1})
	checkRows(t, "BlockOf", 256, of(256).BlockOf, row{130559, 254}, row{130560, 255}, row{131071, 255}, row{131072, -1})
	checkRows(t, "BlockOf", 257, of(257).BlockOf, row{131071, 255}, row{131072, 256}, row{131583, 256}, row{131584, -1})
	checkRows(t, "BlockOf", 1<<20, of(1<<20).BlockOf, row{131584, 257}, row{536870399, 1048574}, row{536870400, 1048575}, row{536870911, 1048575}, row{536870912, -1})
}

// TestFirst: P4.1, of First, by numbers that are written out.
func TestFirst(t *testing.T) {
	checkRows(t, "First", 0, of(0).First, row{-1, -1}, row{0, -1}, row{1, -1})
	checkRows(t, "First", 1, of(1).First, row{-1, -1}, row{0, 0}, row{1, -1}, row{2, -1})
	checkRows(t, "First", 2, of(2).First, row{-2, -1}, row{-1, -1}, row{0, 0}, row{1, 512}, row{2, -1}, row{3, -1})
	checkRows(t, "First", 4, of(4).First, row{0, 0}, row{1, 512}, row{2, 1024}, row{3, 1536}, row{4, -1}, row{512, -1})
	checkRows(t, "First", 256, of(256).First, row{254, 130048}, row{255, 130560}, row{256, -1})
	checkRows(t, "First", 257, of(257).First, row{255, 130560}, row{256, 131072}, row{257, -1})
	checkRows(t, "First", 1<<20, of(1<<20).First, row{257, 131584}, row{1048574, 536869888}, row{1048575, 536870400}, row{1048576, -1})
}

// TestHeader: P4.1, of Header, by numbers that are written out: block 0 has none.
func TestHeader(t *testing.T) {
	checkRows(t, "Header", 0, of(0).Header, row{-1, -1}, row{0, -1}, row{1, -1})
	checkRows(t, "Header", 1, of(1).Header, row{-1, -1}, row{0, -1}, row{1, -1}, row{2, -1})
	checkRows(t, "Header", 2, of(2).Header, row{-257, -1}, row{-256, -1}, row{-1, -1}, row{0, -1}, row{1, 257}, row{2, -1}, row{3, -1})
	checkRows(t, "Header", 4, of(4).Header, row{0, -1}, row{1, 257}, row{2, 258}, row{3, 259}, row{4, -1}, row{259, -1})
	checkRows(t, "Header", 256, of(256).Header, row{0, -1}, row{1, 257}, row{254, 510}, row{255, 511}, row{256, -1})
	checkRows(t, "Header", 257, of(257).Header, row{0, -1}, row{255, 511}, row{256, 512}, row{257, -1})
	checkRows(t, "Header", 1<<20, of(1<<20).Header, row{0, -1}, row{1, 257}, row{1048574, 1048830}, row{1048575, 1048831}, row{1048576, -1})
}

// TestData: P4.1, of Data, by words that are written out (1 is true).
func TestData(t *testing.T) {
	rows := []struct {
		blocks int
		rows   []row
	}{
		{0, []row{{-1, 0}, {0, 0}, {511, 0}, {512, 0}}},
		{1, []row{{-1, 0}, {0, 0}, {511, 0}, {512, 0}, {513, 0}}},
		{2, []row{{-600, 0}, {-512, 0}, {-1, 0}, {0, 0}, {64, 0}, {257, 0}, {511, 0}, {512, 1}, {513, 1}, {1023, 1}, {1024, 0}}},
		{4, []row{{511, 0}, {512, 1}, {1024, 1}, {1536, 1}, {2047, 1}, {2048, 0}}},
		{256, []row{{511, 0}, {512, 1}, {131071, 1}, {131072, 0}}},
		{257, []row{{511, 0}, {512, 1}, {131072, 1}, {131583, 1}, {131584, 0}}},
		{1 << 20, []row{{511, 0}, {512, 1}, {536870400, 1}, {536870911, 1}, {536870912, 0}}},
	}
	for _, r := range rows {
		checkRows(t, "Data", r.blocks, func(at int) int { return within(of(r.blocks).Data(at)) }, r.rows...)
	}
}

// TestNoSuch: P4.1, of words and blocks far below 0, and far behind the end.
func TestNoSuch(t *testing.T) {
	for _, blocks := range append(some(), 1<<20) {
		g := of(blocks)
		for _, n := range far() {
			if got := g.BlockOf(n); got != -1 {
				t.Errorf("of %d blocks: BlockOf(%d): %d, want -1", blocks, n, got)
			}
			if got := g.First(n); got != -1 {
				t.Errorf("of %d blocks: First(%d): %d, want -1", blocks, n, got)
			}
			if got := g.Header(n); got != -1 {
				t.Errorf("of %d blocks: Header(%d): %d, want -1", blocks, n, got)
			}
			if g.Data(n) {
				t.Errorf("of %d blocks: Data(%d): true, want false", blocks, n)
			}
		}
	}
}

// TestSlotAt: P4.2, of SlotAt: of even numbers the first slot, of all others the second one.
func TestSlotAt(t *testing.T) {
	rows := []row{
		{math.MinInt, 64}, {math.MinInt + 1, 128}, {math.MinInt32 - 1, 128}, {math.MinInt32, 64},
		{-4, 64}, {-3, 128}, {-2, 64}, {-1, 128}, {0, 64}, {1, 128}, {2, 64}, {3, 128}, {4, 64}, {5, 128}, {64, 64}, {127, 128},
		{math.MaxInt32, 128}, {math.MaxInt32 + 1, 64}, {math.MaxInt - 1, 64}, {math.MaxInt, 128},
	}
	checkRows(t, "SlotAt", 0, geom.SlotAt, rows...)
	want := 64
	for i := -1000; i <= 1000; i++ {
		checkRows(t, "SlotAt", 0, geom.SlotAt, row{i, want})
		want = 192 - want
	}
}

// TestNeed: P4.2, of Need: rounded up to whole blocks, 0 below 1.
func TestNeed(t *testing.T) {
	rows := []row{
		{math.MinInt, 0}, {math.MinInt + 1, 0}, {math.MinInt32, 0}, {-1025, 0}, {-1024, 0}, {-1023, 0}, {-513, 0}, {-512, 0}, {-511, 0}, {-1, 0},
		{0, 0}, {1, 1}, {2, 1}, {511, 1}, {512, 1}, {513, 2}, {600, 2}, {1023, 2}, {1024, 2}, {1025, 3},
		{130560, 255}, {130561, 256}, {131072, 256}, {131073, 257}, {1 << 29, 1 << 20}, {1<<29 + 1, 1<<20 + 1},
		{math.MaxInt32 - 1, 1 << 22}, {math.MaxInt32, 1 << 22}, {math.MaxInt32 + 1, 1 << 22}, {math.MaxInt32 + 2, 1<<22 + 1},
		{math.MaxInt - 512, 1<<54 - 1}, {math.MaxInt - 511, 1<<54 - 1}, {math.MaxInt - 510, 1 << 54}, {math.MaxInt - 1, 1 << 54}, {math.MaxInt, 1 << 54},
	}
	checkRows(t, "Need", 0, geom.Need, rows...)
}

// TestNeedOfAll: P4.2, of Need: so many blocks have room for the words, and one less hasn't.
func TestNeedOfAll(t *testing.T) {
	room, blocks := 0, 0
	for words := range 1 << 18 {
		if words > room {
			room, blocks = room+512, blocks+1
		}
		if got := geom.Need(words); got != blocks {
			t.Fatalf("Need(%d): %d, want %d", words, got, blocks)
		}
	}
}

// TestLineOf: P4.2, of LineOf: eight words a line.
func TestLineOf(t *testing.T) {
	rows := []row{
		{0, 0}, {1, 0}, {7, 0}, {8, 1}, {9, 1}, {15, 1}, {16, 2}, {63, 7}, {64, 8}, {128, 16}, {256, 32}, {511, 63}, {512, 64}, {513, 64},
		{131071, 16383}, {131072, 16384}, {536870911, 67108863}, {math.MaxInt32, 1<<28 - 1}, {math.MaxInt32 + 1, 1 << 28}, {math.MaxInt - 7, 1<<60 - 1}, {math.MaxInt, 1<<60 - 1},
	}
	checkRows(t, "LineOf", 0, geom.LineOf, rows...)
	line := 0
	for at := range 1 << 17 {
		if at > 0 && at%8 == 0 {
			line++
		}
		checkRows(t, "LineOf", 0, geom.LineOf, row{at, line})
	}
}

// TestEachWord: P4.3, and P4.1 of each word and block: one goes over a device word by word, and counts blocks as they begin.
func TestEachWord(t *testing.T) {
	for _, blocks := range some() {
		g := of(blocks)
		at := 0
		for block := range blocks {
			if got := g.First(block); got != at {
				t.Fatalf("of %d blocks: First(%d): %d, want %d", blocks, block, got, at)
			}
			for range 512 {
				if got := g.BlockOf(at); got != block {
					t.Fatalf("of %d blocks: BlockOf(%d): %d, want %d", blocks, at, got, block)
				}
				if got := g.Data(at); got != (block > 0) {
					t.Fatalf("of %d blocks: Data(%d): %v, want %v", blocks, at, got, block > 0)
				}
				at++
			}
		}
		if at != g.Words() {
			t.Errorf("of %d blocks: %d words, want %d", blocks, g.Words(), at)
		}
		for further := range 2048 {
			if g.BlockOf(at+further) != -1 || g.Data(at+further) || g.First(blocks+further) != -1 || g.Header(blocks+further) != -1 {
				t.Fatalf("of %d blocks: something is %d behind the end", blocks, further)
			}
		}
	}
}

// TestJustOne: P4.3: of all blocks just one has a word between its First and the next one's (the last one's next is the device's end), and BlockOf tells it.
func TestJustOne(t *testing.T) {
	for _, blocks := range []int{1, 2, 3, 4, 5, 256, 257} {
		g := of(blocks)
		for at := 0; at < g.Words(); at += 1 + at%7 {
			holders := 0
			for block := range blocks {
				next := g.First(block + 1)
				if block == blocks-1 {
					next = g.Words()
				}
				if at < g.First(block) || at >= next {
					continue
				}
				holders++
				if got := g.BlockOf(at); got != block {
					t.Fatalf("of %d blocks: BlockOf(%d): %d, want %d", blocks, at, got, block)
				}
			}
			if holders != 1 {
				t.Fatalf("of %d blocks: %d of them have word %d, want 1", blocks, holders, at)
			}
		}
	}
}

// TestEachHeader: P4.1, of Header: of each block but the first one a word of its own, up to 2^20 blocks.
func TestEachHeader(t *testing.T) {
	for _, blocks := range append(some(), 1<<20) {
		g := of(blocks)
		want := 256
		for block := range blocks {
			word := want
			if block == 0 {
				word = -1
			}
			if got := g.Header(block); got != word {
				t.Fatalf("of %d blocks: Header(%d): %d, want %d", blocks, block, got, word)
			}
			want++
		}
	}
}

// TestLeft: P2: a geometry that is asked stays as it was, and what is answered hangs on the arguments alone.
func TestLeft(t *testing.T) {
	g, other := of(4), of(3)
	for range 3 {
		if !g.Right() || g.Words() != 2048 || g.BlockOf(1600) != 3 || g.First(3) != 1536 || g.Header(3) != 259 || !g.Data(1600) || g.Most() != 1536 {
			t.Errorf("of 4 blocks: another answer than before")
		}
		if other.Words() != 1536 || other.BlockOf(1600) != -1 || other.First(3) != -1 || other.Header(3) != -1 || other.Data(1600) || other.Most() != 1024 {
			t.Errorf("of 3 blocks: another answer than before")
		}
		if geom.SlotAt(3) != 128 || geom.Need(600) != 2 || geom.LineOf(600) != 75 {
			t.Errorf("SlotAt, Need or LineOf: another answer than before")
		}
		if g != of(4) || other != of(3) {
			t.Errorf("geometries: %v, %v, want %v, %v", g, other, of(4), of(3))
		}
	}
}

// TestAllEnd: P1: no call panics, at the farthest arguments together, whatever number of blocks is told.
func TestAllEnd(t *testing.T) {
	numbers := append(far(), 0, 1, 2, 255, 256, 257, 511, 512, 1<<20-1, 1<<20, 1<<20+1)
	for _, blocks := range numbers {
		g := of(blocks)
		g.Right()
		g.Words()
		g.Most()
		for _, n := range numbers {
			g.BlockOf(n)
			g.First(n)
			g.Header(n)
			g.Data(n)
		}
		geom.SlotAt(blocks)
		geom.Need(blocks)
		geom.LineOf(blocks)
	}
}
