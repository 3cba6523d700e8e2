package bits_test

import (
	"bytes"
	"math"
	"slices"
	"testing"

	"taproot/bits"
)

// The models below go bit by bit, by division alone, so that they share no thought with the package.

// bitsOf are a word's bits, the lowest first.
func bitsOf(w uint64) [64]int {
	var list [64]int
	for i := range list {
		list[i] = int(w % 2)
		w /= 2
	}
	return list
}

// wordOf is the word that has these bits.
func wordOf(list [64]int) uint64 {
	w := uint64(0)
	for i := 63; i >= 0; i-- {
		w = w*2 + uint64(list[i])
	}
	return w
}

func modelGet(w uint64, at, width int) uint64 {
	var out [64]int
	if at < 0 || at > 63 {
		return 0
	}
	for i, b := range bitsOf(w) {
		if i >= at && i-at < width {
			out[i-at] = b
		}
	}
	return wordOf(out)
}

func modelPut(w uint64, at, width int, n uint64) uint64 {
	out, from := bitsOf(w), bitsOf(n)
	if at < 0 || at > 63 {
		return w
	}
	for i := at; i < 64 && i-at < width; i++ {
		out[i] = from[i-at]
	}
	return wordOf(out)
}

func modelFits(n uint64, width int) bool {
	for i, b := range bitsOf(n) {
		if i >= width && b == 1 {
			return false
		}
	}
	return true
}

func modelTurn(w uint64, by int) uint64 {
	step := by % 64
	if step < 0 {
		step += 64
	}
	var out [64]int
	for i, b := range bitsOf(w) {
		out[(i+step)%64] = b
	}
	return wordOf(out)
}

// someWords are words of all shapes: none, one, all, alternating and mixed bits.
func someWords() []uint64 {
	list := []uint64{0, 1, 2, 3, math.MaxUint64, math.MaxUint64 - 1, 0x8000000000000000, 0x7fffffffffffffff, 0xaaaaaaaaaaaaaaaa, 0x5555555555555555, 0x0123456789abcdef, 0xfedcba9876543210, 0xffffffff, 0xffffffff00000000, 0xabcd}
	w := uint64(0x9e3779b97f4a7c15)
	for range 8 {
		w = w*6364136223846793005 + 1442695040888963407
		list = append(list, w)
	}
	return list
}

// places are all places and widths about a word, and the farthest numbers.
func places() []int {
	list := []int{math.MinInt, math.MinInt + 1, math.MinInt32, -1000, -129, -128, -127}
	for i := -66; i <= 130; i++ {
		list = append(list, i)
	}
	return append(list, 255, 256, 1000, math.MaxInt32, math.MaxInt-1, math.MaxInt)
}

// TestGet: P1.1, of Get, at all places and widths.
func TestGet(t *testing.T) {
	for _, w := range someWords() {
		for _, at := range places() {
			for _, width := range places() {
				if got, want := bits.Get(w, at, width), modelGet(w, at, width); got != want {
					t.Fatalf("Get(%#x, %d, %d): %#x, want %#x", w, at, width, got, want)
				}
			}
		}
	}
}

// TestGetEdges: P1.1, of Get, by numbers that are written out.
func TestGetEdges(t *testing.T) {
	rows := []struct {
		name      string
		w         uint64
		at, width int
		want      uint64
	}{
		{"the chapter's example", 0xabcd, 4, 8, 0xbc},
		{"a place below 0", math.MaxUint64, -1, 64, 0},
		{"the farthest place below 0", math.MaxUint64, math.MinInt, 64, 0},
		{"the first place", 0xabcd, 0, 4, 0xd},
		{"the last place", 0x8000000000000000, 63, 1, 1},
		{"the last place, above it noughts", 0x8000000000000000, 63, 8, 1},
		{"a place above 63", math.MaxUint64, 64, 64, 0},
		{"the farthest place", math.MaxUint64, math.MaxInt, 64, 0},
		{"a width below 0", math.MaxUint64, 3, -1, 0},
		{"the farthest width below 0", math.MaxUint64, 3, math.MinInt, 0},
		{"a width of 0", math.MaxUint64, 3, 0, 0},
		{"a width of 1", 0b0100, 2, 1, 1},
		{"a width of 63", math.MaxUint64, 0, 63, 0x7fffffffffffffff},
		{"a width of 64", 0xfedcba9876543210, 0, 64, 0xfedcba9876543210},
		{"a width of 64 from above", 0xfedcba9876543210, 32, 64, 0xfedcba98},
		{"a width above 64", 0xfedcba9876543210, 0, 65, 0xfedcba9876543210},
		{"the farthest width", 0xfedcba9876543210, 4, math.MaxInt, 0xfedcba987654321},
	}
	for _, r := range rows {
		if got := bits.Get(r.w, r.at, r.width); got != r.want {
			t.Errorf("%s: Get(%#x, %d, %d): %#x, want %#x", r.name, r.w, r.at, r.width, got, r.want)
		}
	}
}

// TestPut: P1.1, of Put, at all places and widths.
func TestPut(t *testing.T) {
	for i, w := range someWords() {
		n := someWords()[(i*7+4)%len(someWords())]
		for _, at := range places() {
			for _, width := range places() {
				if got, want := bits.Put(w, at, width, n), modelPut(w, at, width, n); got != want {
					t.Fatalf("Put(%#x, %d, %d, %#x): %#x, want %#x", w, at, width, n, got, want)
				}
			}
		}
	}
}

// TestPutEdges: P1.1, of Put, by numbers that are written out.
func TestPutEdges(t *testing.T) {
	const all = uint64(math.MaxUint64)
	rows := []struct {
		name      string
		w         uint64
		at, width int
		n, want   uint64
	}{
		{"a field in the middle", 0xabcd, 4, 8, 0x12, 0xa12d},
		{"noughts are put as well", all, 8, 8, 0, 0xffffffffffff00ff},
		{"n's lowest bits alone", 0, 4, 4, 0x1234, 0x40},
		{"as far as there are bits", 0, 60, 8, 0xff, 0xf000000000000000},
		{"a place below 0", 0xabcd, -1, 64, all, 0xabcd},
		{"the farthest place below 0", 0xabcd, math.MinInt, 64, all, 0xabcd},
		{"the first place", 0xabcd, 0, 4, 0, 0xabc0},
		{"the last place", 0, 63, 1, 1, 0x8000000000000000},
		{"a place above 63", 0xabcd, 64, 64, all, 0xabcd},
		{"the farthest place", 0xabcd, math.MaxInt, 64, all, 0xabcd},
		{"a width below 0", 0xabcd, 3, -1, all, 0xabcd},
		{"the farthest width below 0", 0xabcd, 3, math.MinInt, all, 0xabcd},
		{"a width of 0", 0xabcd, 3, 0, all, 0xabcd},
		{"a width of 63", all, 0, 63, 0, 0x8000000000000000},
		{"a width of 64", 0xabcd, 0, 64, 0xfedcba9876543210, 0xfedcba9876543210},
		{"a width of 64 from above", 0xabcd, 16, 64, 0xfedcba9876543210, 0xba9876543210abcd},
		{"a width above 64", 0xabcd, 0, 65, 0xfedcba9876543210, 0xfedcba9876543210},
		{"the farthest width", 0xabcd, 0, math.MaxInt, 0xfedcba9876543210, 0xfedcba9876543210},
	}
	for _, r := range rows {
		if got := bits.Put(r.w, r.at, r.width, r.n); got != r.want {
			t.Errorf("%s: Put(%#x, %d, %d, %#x): %#x, want %#x", r.name, r.w, r.at, r.width, r.n, got, r.want)
		}
	}
}

// TestFits: P1.1, of Fits.
func TestFits(t *testing.T) {
	for _, n := range someWords() {
		for _, width := range places() {
			if got, want := bits.Fits(n, width), modelFits(n, width); got != want {
				t.Fatalf("Fits(%#x, %d): %v, want %v", n, width, got, want)
			}
		}
	}
	rows := []struct {
		n     uint64
		width int
		want  bool
	}{
		{0, math.MinInt, true}, {0, -1, true}, {0, 0, true}, {1, math.MinInt, false}, {1, -1, false}, {1, 0, false}, {1, 1, true},
		{255, 8, true}, {256, 8, false}, {256, 9, true}, {0x8000000000000001, 1, false},
		{math.MaxUint64, 63, false}, {math.MaxUint64, 64, true}, {math.MaxUint64, 65, true}, {math.MaxUint64, math.MaxInt, true},
	}
	for _, r := range rows {
		if got := bits.Fits(r.n, r.width); got != r.want {
			t.Errorf("Fits(%#x, %d): %v, want %v", r.n, r.width, got, r.want)
		}
	}
}

// TestBitsThatAreOne: P1.2, of Count, Lowest and Highest.
func TestBitsThatAreOne(t *testing.T) {
	words := someWords()
	for i := range 64 {
		one := uint64(1) << i
		words = append(words, one, one-1, ^one, ^(one - 1), one|1, one|0x8000000000000000)
	}
	for _, w := range words {
		count, lowest, highest := 0, 64, -1
		for i, b := range bitsOf(w) {
			if b == 0 {
				continue
			}
			count++
			highest = i
			if lowest == 64 {
				lowest = i
			}
		}
		if got := bits.Count(w); got != count {
			t.Errorf("Count(%#x): %d, want %d", w, got, count)
		}
		if got := bits.Lowest(w); got != lowest {
			t.Errorf("Lowest(%#x): %d, want %d", w, got, lowest)
		}
		if got := bits.Highest(w); got != highest {
			t.Errorf("Highest(%#x): %d, want %d", w, got, highest)
		}
	}
}

// TestNoBit: P1.2, of a word without a bit that is 1, and of one that has all.
func TestNoBit(t *testing.T) {
	if c, l, h := bits.Count(0), bits.Lowest(0), bits.Highest(0); c != 0 || l != 64 || h != -1 {
		t.Errorf("of 0: %d, %d, %d, want 0, 64, -1", c, l, h)
	}
	all := uint64(math.MaxUint64)
	if c, l, h := bits.Count(all), bits.Lowest(all), bits.Highest(all); c != 64 || l != 0 || h != 63 {
		t.Errorf("of all: %d, %d, %d, want 64, 0, 63", c, l, h)
	}
}

// TestTurn: P1.2, of Turn.
func TestTurn(t *testing.T) {
	for _, w := range someWords() {
		for _, by := range places() {
			if got, want := bits.Turn(w, by), modelTurn(w, by); got != want {
				t.Fatalf("Turn(%#x, %d): %#x, want %#x", w, by, got, want)
			}
		}
	}
	const w = uint64(0xfedcba9876543210)
	rows := []struct {
		by   int
		want uint64
	}{
		{0, w}, {4, 0xedcba9876543210f}, {8, 0xdcba9876543210fe}, {63, 0x7f6e5d4c3b2a1908}, {64, w}, {68, 0xedcba9876543210f}, {128, w},
		{-4, 0x0fedcba987654321}, {-60, 0xedcba9876543210f}, {-64, w}, {-68, 0x0fedcba987654321},
		{math.MinInt, w}, {math.MinInt + 4, 0xedcba9876543210f}, {math.MaxInt, 0x7f6e5d4c3b2a1908},
	}
	for _, r := range rows {
		if got := bits.Turn(w, r.by); got != r.want {
			t.Errorf("Turn(%#x, %d): %#x, want %#x", w, r.by, got, r.want)
		}
	}
}

// TestUp: P1.3, of Up.
func TestUp(t *testing.T) {
	for n := -20; n <= 100; n++ {
		for size := -20; size <= 40; size++ {
			want := 0
			if n > 0 && size > 0 {
				for want*size < n {
					want++
				}
			}
			if got := bits.Up(n, size); got != want {
				t.Fatalf("Up(%d, %d): %d, want %d", n, size, got, want)
			}
		}
	}
	rows := []struct{ n, size, want int }{
		{9, 8, 2}, {8, 8, 1}, {1, 8, 1}, {0, 8, 0}, {-1, 8, 0}, {9, 0, 0}, {9, -1, 0}, {0, 0, 0}, {-9, -8, 0},
		{math.MaxInt, 1, math.MaxInt}, {math.MaxInt, 2, math.MaxInt/2 + 1}, {math.MaxInt, math.MaxInt, 1}, {1, math.MaxInt, 1},
		{math.MaxInt, math.MaxInt - 1, 2}, {math.MinInt, 1, 0}, {1, math.MinInt, 0}, {math.MinInt, math.MinInt, 0},
		{math.MinInt, math.MaxInt, 0}, {math.MaxInt, math.MinInt, 0}, {math.MaxInt, 0, 0}, {math.MinInt, 0, 0}, {math.MinInt, -1, 0},
	}
	for _, r := range rows {
		if got := bits.Up(r.n, r.size); got != r.want {
			t.Errorf("Up(%d, %d): %d, want %d", r.n, r.size, got, r.want)
		}
	}
}

// TestBytes: P1.3, of Bytes: none, one, and several words.
func TestBytes(t *testing.T) {
	if got := bits.Bytes(); len(got) != 0 {
		t.Errorf("Bytes(): %v", got)
	}
	if got := bits.Bytes(nil...); len(got) != 0 {
		t.Errorf("Bytes(nil...): %v", got)
	}
	if got, want := bits.Bytes(0x0807060504030201), []byte{1, 2, 3, 4, 5, 6, 7, 8}; !bytes.Equal(got, want) {
		t.Errorf("Bytes of one: %v, want %v", got, want)
	}
	got := bits.Bytes(0x1ff, 0, 0xfe00000000000000)
	want := []byte{0xff, 1, 0, 0, 0, 0, 0, 0, 0, 0, 0, 0, 0, 0, 0, 0, 0, 0, 0, 0, 0, 0, 0, 0xfe}
	if !bytes.Equal(got, want) {
		t.Errorf("Bytes of three: %v, want %v", got, want)
	}
}

// TestWords: P1.3, of Words: none, bytes that fill words, and bytes that don't.
func TestWords(t *testing.T) {
	data := []byte{1, 2, 3, 4, 5, 6, 7, 8, 0xf9, 0, 0xfb, 0, 0, 0, 0, 0xff, 0x80}
	rows := []struct {
		n    int
		want []uint64
	}{
		{0, nil},
		{1, []uint64{1}},
		{2, []uint64{0x201}},
		{7, []uint64{0x7060504030201}},
		{8, []uint64{0x807060504030201}},
		{9, []uint64{0x807060504030201, 0xf9}},
		{15, []uint64{0x807060504030201, 0xfb00f9}},
		{16, []uint64{0x807060504030201, 0xff00000000fb00f9}},
		{17, []uint64{0x807060504030201, 0xff00000000fb00f9, 0x80}},
	}
	for _, r := range rows {
		// The bytes behind the first n are spare room: they are not told.
		if got := bits.Words(data[:r.n]); !slices.Equal(got, r.want) {
			t.Errorf("Words of %d: %x, want %x", r.n, got, r.want)
		}
	}
	if got := bits.Words(nil); len(got) != 0 {
		t.Errorf("Words(nil): %v", got)
	}
}

// TestPutIsGot: P1.4, of fields: what was put is got, and all other bits stay.
func TestPutIsGot(t *testing.T) {
	for i, w := range someWords() {
		n := someWords()[(i*5+2)%len(someWords())]
		for at := range 64 {
			for width := 0; width <= 70; width++ {
				put := bits.Put(w, at, width, n)
				room := min(width, 64-at)
				if got, want := bits.Get(put, at, width), bits.Get(n, 0, room); got != want {
					t.Fatalf("Get(Put(%#x, %d, %d, %#x)): %#x, want %#x", w, at, width, n, got, want)
				}
				if !bits.Fits(bits.Get(put, at, width), room) {
					t.Fatalf("Get(Put(%#x, %d, %d, %#x)) has more bits than there is room", w, at, width, n)
				}
				if below := bits.Get(put, 0, at); below != bits.Get(w, 0, at) {
					t.Fatalf("Put(%#x, %d, %d, %#x): below it became %#x", w, at, width, n, below)
				}
				if above := bits.Get(put, at+width, 64); above != bits.Get(w, at+width, 64) {
					t.Fatalf("Put(%#x, %d, %d, %#x): above it became %#x", w, at, width, n, above)
				}
				if back := bits.Put(put, at, width, bits.Get(w, at, width)); back != w {
					t.Fatalf("Put(%#x, %d, %d, %#x), undone: %#x", w, at, width, n, back)
				}
			}
		}
	}
}

// TestBytesLeadBack: P1.4, of bytes: words become bytes and again words; bytes become words and again bytes, noughts behind.
func TestBytesLeadBack(t *testing.T) {
	all := someWords()
	for n := range len(all) + 1 {
		data := bits.Bytes(all[:n]...)
		if len(data) != 8*n {
			t.Fatalf("Bytes of %d words: %d bytes", n, len(data))
		}
		if back := bits.Words(data); !slices.Equal(back, all[:n]) {
			t.Fatalf("Words(Bytes of %d words): %x", n, back)
		}
	}
	data := bits.Bytes(all...)
	for n := range len(data) + 1 {
		back := bits.Bytes(bits.Words(data[:n])...)
		if len(back) != 8*bits.Up(n, 8) || !bytes.Equal(back[:n], data[:n]) {
			t.Fatalf("Bytes(Words of %d bytes): %x", n, back)
		}
		for _, b := range back[n:] {
			if b != 0 {
				t.Fatalf("Bytes(Words of %d bytes): %x, not noughts behind", n, back)
			}
		}
	}
}

// TestListsAreLeft: P2 (rule 4), of lists handed in: they and their spare room stay as they are, and answers are new memory.
func TestListsAreLeft(t *testing.T) {
	words := []uint64{1, 2, 3, 4}
	data := bits.Bytes(words[:2]...)
	if !slices.Equal(words, []uint64{1, 2, 3, 4}) {
		t.Errorf("Bytes changed its words: %v", words)
	}
	again := bits.Bytes(words[:2]...)
	data[0] = 9
	if words[0] != 1 || again[0] != 1 {
		t.Errorf("an answer of Bytes shares memory")
	}
	words[1] = 7
	if again[8] != 2 {
		t.Errorf("Bytes keeps its words")
	}

	raw := []byte{1, 0, 0, 0, 0, 0, 0, 0, 2, 3, 4}
	kept := slices.Clone(raw)
	first, second := bits.Words(raw[:9]), bits.Words(raw[:9])
	first[0], first[1] = 8, 8
	if !bytes.Equal(raw, kept) {
		t.Errorf("Words changed its bytes: %v", raw)
	}
	if second[0] != 1 || second[1] != 2 {
		t.Errorf("an answer of Words shares memory: %v", second)
	}
	raw[0] = 5
	if second[0] != 1 {
		t.Errorf("Words keeps its bytes")
	}
}

// TestNothingIsRemembered: P2 (rule 4), of answers: they hang on the arguments alone, whatever was asked before.
func TestNothingIsRemembered(t *testing.T) {
	ask := func() []uint64 {
		var out []uint64
		for _, w := range someWords() {
			for _, at := range []int{math.MinInt, -1, 0, 7, 63, 64, math.MaxInt} {
				out = append(out, bits.Get(w, at, 9), bits.Put(w, at, 9, ^w), bits.Turn(w, at), uint64(bits.Up(int(w>>1), at)))
			}
			out = append(out, uint64(bits.Count(w)), uint64(bits.Lowest(w)), uint64(bits.Highest(w)))
			out = append(out, bits.Words(bits.Bytes(w, ^w))...)
		}
		return out
	}
	first := ask()
	if second := ask(); !slices.Equal(first, second) {
		t.Errorf("asked again, other answers")
	}
}

// TestAllEnd: P1: no call panics, at the farthest arguments together.
func TestAllEnd(t *testing.T) {
	far := []int{math.MinInt, math.MinInt + 1, -65, -64, -63, -1, 0, 1, 63, 64, 65, math.MaxInt - 1, math.MaxInt}
	for _, w := range someWords() {
		bits.Count(w)
		bits.Lowest(w)
		bits.Highest(w)
		for _, a := range far {
			bits.Fits(w, a)
			bits.Turn(w, a)
			for _, b := range far {
				bits.Get(w, a, b)
				bits.Put(w, a, b, ^w)
				bits.Up(a, b)
			}
		}
	}
}

// TestWord: the number of a word's bits.
func TestWord(t *testing.T) {
	if bits.Word != 64 {
		t.Errorf("Word: %d", bits.Word)
	}
}
