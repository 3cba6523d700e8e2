package crc_test

import (
	"bytes"
	"hash/crc32"
	"math"
	"slices"
	"testing"

	"taproot/bits"
	"taproot/crc"
)

// The models below go bit by bit, by division and without a table, as the chapter tells it; the library's CRC-32 is a second witness.

func modelMore(sum uint32, data []byte) uint32 {
	rest := math.MaxUint32 - sum
	for _, b := range data {
		rest ^= uint32(b)
		for range 8 {
			odd := rest%2 == 1
			rest /= 2
			if odd {
				rest ^= 0xedb88320
			}
		}
	}
	return math.MaxUint32 - rest
}

// bytesOf are words' bytes, of each the lowest first.
func bytesOf(list []uint64) []byte {
	var data []byte
	for _, w := range list {
		for range 8 {
			data = append(data, byte(w%256))
			w /= 256
		}
	}
	return data
}

func modelSeal(n uint32, place int) uint64 {
	return uint64(modelMore(0, bytesOf([]uint64{uint64(n), uint64(place)})))*(1<<32) + uint64(n)
}

// mixed are so many bytes of all kinds, always the same ones.
func mixed(many int) []byte {
	data := make([]byte, many)
	w := uint64(0x9e3779b97f4a7c15)
	for i := range data {
		w = w*6364136223846793005 + 1442695040888963407
		data[i] = byte(w >> 56)
	}
	return data
}

// someWords are words of all shapes.
func someWords() []uint64 {
	list := []uint64{0, 1, 2, math.MaxUint64, math.MaxUint64 - 1, 0x8000000000000000, 0xffffffff, 0xffffffff00000000, 0x0123456789abcdef}
	return append(list, bits.Words(mixed(64))...)
}

// someSums are sums, and numbers to be sealed: none, all ones, single bits and mixed ones.
func someSums() []uint32 {
	return []uint32{0, 1, 0xabcd, 0x7fffffff, 0x80000000, 0xcbf43926, 0xedb88320, math.MaxUint32 - 1, math.MaxUint32}
}

// places are the places that a device has, and the farthest ones.
func places() []int {
	list := []int{math.MinInt, math.MinInt + 1, math.MinInt32 - 1, math.MinInt32, -256, -1}
	for i := range 600 {
		list = append(list, i)
	}
	return append(list, 1<<17, math.MaxInt32, math.MaxInt32+1, math.MaxUint32, math.MaxUint32+1, math.MaxInt-1, math.MaxInt)
}

// TestSumEdges: P2.1, of Sum, by numbers that are written out.
func TestSumEdges(t *testing.T) {
	rows := []struct {
		name string
		data string
		want uint32
	}{
		{"no bytes", "", 0},
		{"the chapter's example", "123456789", 0xcbf43926},
		{"a nought", "\x00", 0xd202ef8d},
		{"all ones", "\xff", 0xff000000},
		{"a letter", "a", 0xe8b7be43},
		{"three letters", "abc", 0x352441c2},
		{"four noughts", "\x00\x00\x00\x00", 0x2144df1c},
		{"a sum of all ones", "\xff\xff\xff\xff", 0xffffffff},
		{"a line of words", "The quick brown fox jumps over the lazy dog", 0x414fa339},
	}
	for _, r := range rows {
		if got := crc.Sum([]byte(r.data)...); got != r.want {
			t.Errorf("%s: %08x, want %08x", r.name, got, r.want)
		}
	}
	if got := crc.Sum(); got != 0 {
		t.Errorf("Sum(): %08x", got)
	}
	if got := crc.Sum(nil...); got != 0 {
		t.Errorf("Sum(nil...): %08x", got)
	}
}

// TestMoreEdges: P2.1, of More, by numbers that are written out: sums of 0, of all ones and between them.
func TestMoreEdges(t *testing.T) {
	rows := []struct {
		name string
		sum  uint32
		data string
		want uint32
	}{
		{"no bytes behind 0", 0, "", 0},
		{"no bytes behind all ones", math.MaxUint32, "", math.MaxUint32},
		{"no bytes behind a sum", 0xcbf43926, "", 0xcbf43926},
		{"digits behind 0", 0, "123456789", 0xcbf43926},
		{"digits behind all ones", math.MaxUint32, "123456789", 0xd202d277},
		{"digits behind digits", 0xcbf43926, "123456789", 0x4b837ae4},
		{"noughts behind all ones", math.MaxUint32, "\x00\x00\x00\x00", math.MaxUint32},
		{"a nought behind digits", 0xcbf43926, "\x00", 0x00c49e49},
		{"ones behind all ones", math.MaxUint32, "\xff", 0xd2fd1072},
		{"a sum of all ones again", 0, "\xff\xff\xff\xff", math.MaxUint32},
	}
	for _, r := range rows {
		if got := crc.More(r.sum, []byte(r.data)...); got != r.want {
			t.Errorf("%s: %08x, want %08x", r.name, got, r.want)
		}
	}
}

// TestMoreOfEachByte: P2.1, of More: each byte behind some sums.
func TestMoreOfEachByte(t *testing.T) {
	for _, sum := range someSums() {
		if got := crc.More(sum); got != sum {
			t.Errorf("More(%08x): %08x", sum, got)
		}
		for b := range 256 {
			if got, want := crc.More(sum, byte(b)), modelMore(sum, []byte{byte(b)}); got != want {
				t.Fatalf("More(%08x, %02x): %08x, want %08x", sum, b, got, want)
			}
		}
	}
}

// TestMoreOfMany: P2.1, of More and Sum: lists of all lengths, held against the model and the library.
func TestMoreOfMany(t *testing.T) {
	data := mixed(300)
	for n := range len(data) + 1 {
		for _, sum := range someSums() {
			got := crc.More(sum, data[:n]...)
			if want := modelMore(sum, data[:n]); got != want {
				t.Fatalf("More(%08x, of %d): %08x, want %08x", sum, n, got, want)
			}
			if want := crc32.Update(sum, crc32.IEEETable, data[:n]); got != want {
				t.Fatalf("More(%08x, of %d): %08x, the library %08x", sum, n, got, want)
			}
		}
		if got, want := crc.Sum(data[:n]...), crc32.ChecksumIEEE(data[:n]); got != want {
			t.Fatalf("Sum(of %d): %08x, want %08x", n, got, want)
		}
	}
}

// TestMuch: P2.1, of as many bytes as a device of the most blocks has.
func TestMuch(t *testing.T) {
	data := mixed(1 << 20)
	want := crc32.ChecksumIEEE(data)
	if got := crc.Sum(data...); got != want {
		t.Errorf("Sum: %08x, want %08x", got, want)
	}
	if got := crc.Words(bits.Words(data)...); got != want {
		t.Errorf("Words: %08x, want %08x", got, want)
	}
}

// TestWords: P2.1, of Words: none, one, several.
func TestWords(t *testing.T) {
	const all = uint64(math.MaxUint64)
	rows := []struct {
		list []uint64
		want uint32
	}{
		{nil, 0},
		{[]uint64{}, 0},
		{[]uint64{0}, 0x6522df69},
		{[]uint64{1}, 0xa988dff7},
		{[]uint64{1, 2}, 0x00f6ddb9},
		{[]uint64{all}, 0x2144df1c},
		{[]uint64{all, all}, 0x3fb3c61a},
		{[]uint64{0x3837363534333231}, 0x9ae0daaf}, // the digits 12345678
	}
	for _, r := range rows {
		if got := crc.Words(r.list...); got != r.want {
			t.Errorf("Words(%x): %08x, want %08x", r.list, got, r.want)
		}
	}
	if got := crc.Words(); got != 0 {
		t.Errorf("Words(): %08x", got)
	}
	list := someWords()
	for n := range len(list) + 1 {
		if got, want := crc.Words(list[:n]...), modelMore(0, bytesOf(list[:n])); got != want {
			t.Errorf("Words(of %d): %08x, want %08x", n, got, want)
		}
		if got, want := crc.Words(list[:n]...), crc.Sum(bits.Bytes(list[:n]...)...); got != want {
			t.Errorf("Words(of %d): %08x, Sum of bits.Bytes %08x", n, got, want)
		}
	}
}

// TestSealEdges: P2.2, of Seal, by words that are written out; Open leads back.
func TestSealEdges(t *testing.T) {
	const ones = uint32(math.MaxUint32)
	rows := []struct {
		n     uint32
		place int
		want  uint64
	}{
		{0, 0, 0xecbb4b5500000000}, {0, 1, 0x20114bcb00000000}, {0, 259, 0xc443470200000000}, {0, -1, 0xa8dd4b2000000000},
		{0, math.MinInt, 0x0103c87500000000}, {0, math.MaxInt, 0x4565c80000000000},
		{1, 0, 0x42d3dac400000001}, {1, -1, 0x06b5dab100000001},
		{0xabcd, 0, 0x8fc47ad90000abcd}, {0xabcd, 259, 0xa73c768e0000abcd}, {0xabcd, -1, 0xcba27aac0000abcd},
		{0xabcd, math.MinInt, 0x627cf9f90000abcd}, {0xabcd, math.MaxInt, 0x261af98c0000abcd},
		{ones, 0, 0xffffffffffffffff}, {ones, 1, 0x3355ff61ffffffff}, {ones, 259, 0xd707f3a8ffffffff}, {ones, -1, 0xbb99ff8affffffff},
		{ones, math.MinInt, 0x12477cdfffffffff}, {ones, math.MaxInt, 0x56217caaffffffff},
	}
	for _, r := range rows {
		if got := crc.Seal(r.n, r.place); got != r.want {
			t.Errorf("Seal(%08x, %d): %016x, want %016x", r.n, r.place, got, r.want)
		}
		if n, ok := crc.Open(r.want, r.place); n != r.n || !ok {
			t.Errorf("Open(%016x, %d): %08x, %v, want %08x, true", r.want, r.place, n, ok, r.n)
		}
	}
}

// TestSeal: P2.2, of Seal and Open: numbers at all places.
func TestSeal(t *testing.T) {
	for _, n := range someSums() {
		for _, place := range places() {
			w := crc.Seal(n, place)
			if want := modelSeal(n, place); w != want {
				t.Fatalf("Seal(%08x, %d): %016x, want %016x", n, place, w, want)
			}
			if got := bits.Get(w, 32, 32); got != uint64(crc.Words(uint64(n), uint64(place))) {
				t.Fatalf("Seal(%08x, %d): upper half %08x", n, place, got)
			}
			if got, ok := crc.Open(w, place); got != n || !ok {
				t.Fatalf("Open(Seal(%08x, %d)): %08x, %v", n, place, got, ok)
			}
		}
	}
}

// TestOpenOfTurnedBits: P2.2, of Open: a sealed word with one bit turned isn't opened, whichever bit it is.
func TestOpenOfTurnedBits(t *testing.T) {
	for _, n := range someSums() {
		for _, place := range []int{math.MinInt, -1, 0, 1, 259, math.MaxInt} {
			w := crc.Seal(n, place)
			for bit := range 64 {
				turned := w ^ 1<<bit
				if got, ok := crc.Open(turned, place); got != 0 || ok {
					t.Fatalf("Open(%016x, %d), bit %d turned: %08x, %v, want 0, false", turned, place, bit, got, ok)
				}
			}
		}
	}
}

// TestOpenElsewhere: P2.2, of Open: a sealed word isn't opened at another place.
func TestOpenElsewhere(t *testing.T) {
	for _, n := range someSums() {
		for _, place := range places() {
			w := crc.Seal(n, place)
			others := []int{place + 1, place - 1, place ^ 1<<8, place ^ 1<<31, place ^ 1<<32, place ^ math.MinInt, ^place}
			if place != 0 {
				others = append(others, 0, -place)
			}
			for _, other := range others {
				if other == place { // the least number's own opposite
					continue
				}
				if got, ok := crc.Open(w, other); got != 0 || ok {
					t.Fatalf("Open(Seal(%08x, %d), %d): %08x, %v, want 0, false", n, place, other, got, ok)
				}
			}
		}
	}
}

// TestOpenOfAnyWord: P2.2, of Open: words that nobody sealed, halves that are exchanged, and seals whose halves are of two words.
func TestOpenOfAnyWord(t *testing.T) {
	words := someWords()
	for _, n := range someSums() {
		w := crc.Seal(n, 7)
		words = append(words, bits.Turn(w, 32), ^w, uint64(n), w&^math.MaxUint32, crc.Seal(n+1, 7)&^math.MaxUint32|uint64(n))
	}
	for _, w := range words {
		for _, place := range places() {
			want, sealed := uint32(w%(1<<32)), true
			if modelSeal(want, place) != w {
				want, sealed = 0, false
			}
			if n, ok := crc.Open(w, place); n != want || ok != sealed {
				t.Fatalf("Open(%016x, %d): %08x, %v, want %08x, %v", w, place, n, ok, want, sealed)
			}
		}
	}
	for _, place := range []int{-1, 0, 1, 259} {
		if n, ok := crc.Open(0, place); n != 0 || ok {
			t.Errorf("Open(0, %d): %08x, %v", place, n, ok)
		}
	}
}

// TestOpenOfAlikeSeals: P2.2, of Open: two places that differ by the sum's own number have one seal; it is that of each.
func TestOpenOfAlikeSeals(t *testing.T) {
	const apart = 1 + 0xedb88320<<1
	for _, n := range someSums() {
		w := crc.Seal(n, 0)
		if w != crc.Seal(n, apart) {
			t.Fatalf("Seal(%08x, 0), Seal(%08x, %#x) differ", n, n, apart)
		}
		if got, ok := crc.Open(w, apart); got != n || !ok {
			t.Errorf("Open(%016x, %#x): %08x, %v, want %08x, true", w, apart, got, ok, n)
		}
	}
}

// TestOneBehindAnother: P2.3: the sum of one text behind another one, wherever they meet.
func TestOneBehindAnother(t *testing.T) {
	data := mixed(200)
	for n := range len(data) + 1 {
		whole := crc.Sum(data[:n]...)
		for cut := range n + 1 {
			if got := crc.More(crc.Sum(data[:cut]...), data[cut:n]...); got != whole {
				t.Fatalf("of %d bytes, cut at %d: %08x, want %08x", n, cut, got, whole)
			}
		}
	}
	words := someWords()
	for cut := range len(words) + 1 {
		got := crc.More(crc.Words(words[:cut]...), bits.Bytes(words[cut:]...)...)
		if want := crc.Words(words...); got != want {
			t.Errorf("words cut at %d: %08x, want %08x", cut, got, want)
		}
	}
	sum := uint32(0)
	for _, b := range data {
		sum = crc.More(sum, b)
	}
	if want := crc.Sum(data...); sum != want {
		t.Errorf("byte by byte: %08x, want %08x", sum, want)
	}
}

// TestListsAreLeft: P2 (rule 4), of lists handed in: they and their spare room stay as they are, and aren't kept.
func TestListsAreLeft(t *testing.T) {
	data := mixed(40)
	kept := slices.Clone(data)
	first := []uint32{crc.Sum(data[:20]...), crc.More(5, data[:20]...)}
	if !bytes.Equal(data, kept) {
		t.Errorf("bytes were changed: %x, want %x", data, kept)
	}
	clear(data)
	if crc.Sum(data[:20]...) == first[0] || crc.More(5, data[:20]...) == first[1] {
		t.Errorf("other bytes, the same sum")
	}

	words := someWords()
	wordsKept := slices.Clone(words)
	sum := crc.Words(words[:5]...)
	if !slices.Equal(words, wordsKept) {
		t.Errorf("words were changed: %x, want %x", words, wordsKept)
	}
	clear(words)
	if crc.Words(words[:5]...) == sum {
		t.Errorf("other words, the same sum")
	}
}

// TestNothingIsRemembered: P2 (rules 3 and 4), of answers: they hang on the arguments alone, whatever was asked, or refused, before.
func TestNothingIsRemembered(t *testing.T) {
	ask := func() []uint64 {
		var out []uint64
		for _, sum := range someSums() {
			out = append(out, uint64(crc.More(sum, mixed(9)...)), uint64(crc.Sum(byte(sum))), uint64(crc.Words(uint64(sum))))
			for _, place := range []int{math.MinInt, -1, 0, 1, math.MaxInt} {
				n, ok := crc.Open(crc.Seal(sum, place), place)
				if !ok {
					t.Fatalf("Open(Seal(%08x, %d)): false", sum, place)
				}
				refused, _ := crc.Open(crc.Seal(sum, place)^1, place)
				out = append(out, crc.Seal(sum, place), uint64(n), uint64(refused))
			}
		}
		return out
	}
	first := ask()
	if second := ask(); !slices.Equal(first, second) {
		t.Errorf("asked again, other answers")
	}
}

// TestAllEnd: P1: no call panics, at the farthest arguments together, and at no lists.
func TestAllEnd(t *testing.T) {
	crc.Sum()
	crc.Sum(nil...)
	crc.Words()
	crc.Words(nil...)
	for _, sum := range someSums() {
		crc.More(sum)
		crc.More(sum, nil...)
		for _, place := range places() {
			crc.Seal(sum, place)
		}
	}
	for _, w := range someWords() {
		crc.Words(w)
		for _, place := range places() {
			crc.Open(w, place)
		}
	}
}
