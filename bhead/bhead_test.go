package bhead_test

import (
	"encoding/binary"
	"hash/crc32"
	"math"
	"slices"
	"testing"

	"taproot/api"
	"taproot/bhead"
)

// The models' words are summed by the library's CRC-32, and their fields are put together by products, not by shifts.

const headers = 256 // where the word of block 0 would be

// header is a block's header.
type header = bhead.Header

// sealed is a word of that number, for the block.
func sealed(n uint32, block int) uint64 {
	data := binary.LittleEndian.AppendUint64(nil, uint64(n))
	data = binary.LittleEndian.AppendUint64(data, uint64(headers+block))
	return uint64(crc32.ChecksumIEEE(data))*(1<<32) + uint64(n)
}

// numberOf is the number that a header's word is sealed of.
func numberOf(h header) uint32 {
	return uint32(h.Kind + 4*h.Class + 256*h.Len)
}

// wordOf is the word of a block's right header.
func wordOf(block int, h header) uint64 {
	return sealed(numberOf(h), block)
}

// rights are all headers that are right.
func rights() []header {
	list := []header{{0, 0, 0}}
	for k := range 32 {
		list = append(list, header{1, k, 0})
	}
	for n := 1; n <= 255; n++ {
		list = append(list, header{2, 0, n}, header{3, 0, n})
	}
	return list
}

// some are headers of each kind that are right, at the edges and between them.
func some() []header {
	return []header{
		{0, 0, 0}, {1, 0, 0}, {1, 1, 0}, {1, 7, 0}, {1, 30, 0}, {1, 31, 0},
		{2, 0, 1}, {2, 0, 2}, {2, 0, 128}, {2, 0, 254}, {2, 0, 255}, {3, 0, 1}, {3, 0, 2}, {3, 0, 128}, {3, 0, 254}, {3, 0, 255},
	}
}

// far are numbers that no kind, no class, no length and no place in a list is.
func far() []int {
	return []int{
		math.MinInt, math.MinInt + 1, math.MinInt + 255, math.MinInt32 - 1, math.MinInt32, -65536, -4096, -257, -256, -255, -64, -32, -4, -3, -2, -1,
		1 << 20, math.MaxInt32, math.MaxInt32 + 1, 1 << 32, 1<<32 + 1, 1<<32 + 2, 1 << 62, math.MaxInt - 255, math.MaxInt - 1, math.MaxInt,
	}
}

// wrongs are headers that aren't right: in one thing alone, or in more.
func wrongs() []header {
	list := []header{{0, 1, 0}, {0, 31, 0}, {0, 32, 0}, {0, 0, 1}, {0, 0, 255}, {0, 1, 1}}
	for _, kind := range append(far(), 4, 5, 6, 7, 8, 255, 256) {
		list = append(list, header{kind, 0, 0}, header{kind, 1, 0}, header{kind, 0, 1}, header{kind, 1, 1})
	}
	for _, n := range append(far(), 32, 33, 63, 64, 65, 95, 255, 256, 4096, 65536) {
		list = append(list, header{0, n, 0}, header{1, n, 0}, header{2, n, 1}, header{3, n, 1})
	}
	for _, n := range append(far(), 256, 257, 511, 512, 65535, 65536, 65537, 65791) {
		list = append(list, header{0, 0, n}, header{1, 0, n}, header{1, 31, n}, header{2, 0, n}, header{3, 0, n})
	}
	list = append(list, header{1, 0, 1}, header{1, 31, 1}, header{1, 0, 255}, header{1, 7, 7}, header{2, 0, 0}, header{3, 0, 0})
	for k := 1; k < 32; k++ {
		list = append(list, header{2, k, 1}, header{3, k, 1}, header{2, k, 255}, header{3, k, 255}, header{2, k, 0}, header{3, k, 0})
	}
	return list
}

// deviceBlocks are blocks that a device may have, and block 0.
func deviceBlocks() []int {
	return []int{0, 1, 2, 3, 4, 5, 7, 8, 15, 16, 31, 32, 63, 64, 100, 127, 128, 200, 254, 255}
}

// otherBlocks are blocks that no device has.
func otherBlocks() []int {
	return append(far(), -512, 256, 257, 511, 512, 1024, 1<<20+1)
}

// next is a generator of numbers below n, always the same ones.
func next(seed uint64) func(n int) int {
	return func(n int) int {
		seed = seed*6364136223846793005 + 1442695040888963407
		return int(seed>>33) % n
	}
}

// checkEncode holds what Encode answers against the word that is asked for.
func checkEncode(t *testing.T, block int, h header, want uint64) {
	t.Helper()
	if got := bhead.Encode(block, h); got != want {
		t.Errorf("Encode(%d, %v): %016x, want %016x", block, h, got, want)
	}
}

// checkDecode holds what Decode answers against what is asked for.
func checkDecode(t *testing.T, block int, w uint64, want header, wantErr api.Errno) {
	t.Helper()
	if got, err := bhead.Decode(block, w); got != want || err != wantErr {
		t.Errorf("Decode(%d, %016x): %v, error %d, want %v, error %d", block, w, got, err, want, wantErr)
	}
}

// checkRefused: Decode answers that error, and beside it the zero header.
func checkRefused(t *testing.T, block int, w uint64, want api.Errno) {
	t.Helper()
	checkDecode(t, block, w, header{}, want)
}

// checkRight holds what Right answers against what is asked for.
func checkRight(t *testing.T, h header, want bool) {
	t.Helper()
	if got := h.Right(); got != want {
		t.Errorf("Right of %v: %v, want %v", h, got, want)
	}
}

// checkRun holds what Run answers against the headers that are asked for.
func checkRun(t *testing.T, many int, want ...header) {
	t.Helper()
	if got := bhead.Run(many); !slices.Equal(got, want) {
		t.Errorf("Run(%d): %v, want %v", many, got, want)
	}
}

// checkWhole holds what Whole answers against what is asked for; the list stays as it was, with all that lies behind it.
func checkWhole(t *testing.T, list []header, block, want int, wantIs bool) {
	t.Helper()
	room := slices.Clone(list[:cap(list)])
	if got, is := bhead.Whole(list, block); got != want || is != wantIs {
		t.Errorf("Whole(%v, %d): %d, %v, want %d, %v", list, block, got, is, want, wantIs)
	}
	if !slices.Equal(list[:cap(list)], room) {
		t.Errorf("Whole(%v, %d): it has changed the list", list, block)
	}
}

// checkNotWhole: Whole answers 0 and false.
func checkNotWhole(t *testing.T, list []header, block int) {
	t.Helper()
	checkWhole(t, list, block, 0, false)
}

// modelRun counts on from block to block.
func modelRun(many int) []header {
	var list []header
	for far := range max(many, 0) {
		if far == 0 {
			list = append(list, header{2, 0, many})
			continue
		}
		list = append(list, header{3, 0, far})
	}
	return list
}

// modelWhole lays a run over the list from the block on.
func modelWhole(list []header, block int) (int, bool) {
	if block < 0 || block >= len(list) {
		return 0, false
	}
	rest := list[block:]
	if rest[0].Kind != 2 || rest[0].Len < 1 || rest[0].Len > len(rest) {
		return 0, false
	}
	many := rest[0].Len
	if !slices.Equal(rest[1:many], modelRun(many)[1:]) {
		return 0, false
	}
	return many, true
}

// TestExample: the chapter's example.
func TestExample(t *testing.T) {
	checkRun(t, 3, header{api.Large, 0, 3}, header{api.Cont, 0, 1}, header{api.Cont, 0, 2})
}

// TestKinds: the kinds are package api's.
func TestKinds(t *testing.T) {
	checkRight(t, header{Kind: api.Free}, true)
	checkRight(t, header{Kind: api.Small, Class: 31}, true)
	checkRight(t, header{Kind: api.Large, Len: 1}, true)
	checkRight(t, header{Kind: api.Cont, Len: 255}, true)
	if api.Free != 0 || api.Small != 1 || api.Large != 2 || api.Cont != 3 {
		t.Errorf("kinds %d, %d, %d, %d, want 0, 1, 2, 3", api.Free, api.Small, api.Large, api.Cont)
	}
}

// TestRight: P7.1, of Right: the headers that are, and those that aren't.
func TestRight(t *testing.T) {
	list := rights()
	if len(list) != 543 {
		t.Fatalf("%d headers, want 543", len(list))
	}
	for _, h := range list {
		checkRight(t, h, true)
	}
	for _, h := range wrongs() {
		checkRight(t, h, false)
	}
}

// TestRightOfAll: P7.1, of Right, and of Encode's 0: of all headers of small numbers just those of rights are right.
func TestRightOfAll(t *testing.T) {
	is := map[header]bool{}
	for _, h := range rights() {
		is[h] = true
	}
	found := 0
	for kind := -2; kind <= 8; kind++ {
		for k := -2; k <= 66; k++ {
			for n := -2; n <= 514; n++ {
				h := header{kind, k, n}
				checkRight(t, h, is[h])
				if h.Right() {
					found++
				} else if w := bhead.Encode(9, h); w != 0 {
					t.Errorf("Encode(9, %v): %016x, want 0", h, w)
				}
			}
		}
	}
	if found != 543 {
		t.Errorf("%d headers are right, want 543", found)
	}
}

// row is a block's header, with its word.
type row struct {
	block int
	h     header
	word  uint64
}

// TestWords: P7.1, of Encode and Decode, by words that are written out: of each kind, at blocks of a device and at others.
func TestWords(t *testing.T) {
	rows := []row{
		{1, header{0, 0, 0}, 0x8666407f00000000}, {255, header{0, 0, 0}, 0x6c87460700000000}, {0, header{0, 0, 0}, 0x4acc40e100000000},
		{1, header{1, 0, 0}, 0x280ed1ee00000001}, {2, header{1, 7, 0}, 0xe7843b5b0000001d}, {2, header{1, 31, 0}, 0xdec5b6dc0000007d},
		{255, header{1, 31, 0}, 0xbaabb7470000007d}, {0, header{1, 5, 0}, 0xd6b2a36900000015},
		{1, header{2, 0, 1}, 0xb83dbef400000102}, {3, header{2, 0, 3}, 0x529e081800000302}, {1, header{2, 0, 255}, 0x1d958c960000ff02},
		{4, header{3, 0, 1}, 0x5eb5210100000103}, {5, header{3, 0, 2}, 0x83624be600000203},
		{255, header{3, 0, 254}, 0xe0e7c0970000fe03}, {255, header{3, 0, 255}, 0x591c1b7f0000ff03},
		{256, header{2, 0, 255}, 0xe0d796950000ff02}, {-1, header{0, 0, 0}, 0xcaf04db300000000}, {-256, header{1, 0, 0}, 0x42d3dac400000001},
		{-257, header{3, 0, 1}, 0x38ee243a00000103}, {1 << 32, header{0, 0, 0}, 0xf270278400000000}, {1 << 62, header{2, 0, 1}, 0x024bfffa00000102},
		{math.MaxInt, header{2, 0, 1}, 0x1913301800000102}, {math.MinInt, header{1, 31, 0}, 0x715832810000007d},
	}
	for _, r := range rows {
		checkEncode(t, r.block, r.h, r.word)
		checkDecode(t, r.block, r.word, r.h, api.OK)
	}
}

// TestAllBlocks: P7.1 and P7.3, against the model: each right header, led back from its word, at all blocks of a device and at any other int as a block.
func TestAllBlocks(t *testing.T) {
	blocks := otherBlocks()
	for block := range 256 {
		blocks = append(blocks, block)
	}
	for _, block := range blocks {
		for _, h := range rights() {
			w := wordOf(block, h)
			checkEncode(t, block, h, w)
			checkDecode(t, block, w, h, api.OK)
		}
	}
}

// TestEncodeWrong: P7.1, of Encode: 0 of a header that isn't right, at any block.
func TestEncodeWrong(t *testing.T) {
	for _, h := range wrongs() {
		for _, block := range deviceBlocks() {
			checkEncode(t, block, h, 0)
		}
		for _, block := range otherBlocks() {
			checkEncode(t, block, h, 0)
		}
	}
}

// TestDecodeSum: P7.1, of Decode: words that aren't sealed.
func TestDecodeSum(t *testing.T) {
	for _, block := range deviceBlocks() {
		for _, h := range rights() {
			n := uint64(numberOf(h))
			checkRefused(t, block, n, api.ErrSum)
			checkRefused(t, block, n|0xffffffff<<32, api.ErrSum)
			checkRefused(t, block, wordOf(block, h)+1<<32, api.ErrSum)
			checkRefused(t, block, wordOf(block, h)-1<<32, api.ErrSum)
			checkRefused(t, block, sealed(0, block)|n, errOf(n))
			// The halves the other way round.
			w := wordOf(block, h)
			checkRefused(t, block, w>>32|w<<32, api.ErrSum)
		}
		for _, w := range []uint64{0, 1, 2, 3, 0x102, 0x0123456789abcdef, 1 << 32, 1 << 63, math.MaxUint32, math.MaxUint64} {
			checkRefused(t, block, w, api.ErrSum)
		}
	}
}

// errOf is what Decode tells of a word with a Free one's sum: OK, if it is a Free one's.
func errOf(n uint64) api.Errno {
	if n == 0 {
		return api.OK
	}
	return api.ErrSum
}

// TestDecodeTurned: P7.1, of Decode: any single bit of a word that is turned is ErrSum.
func TestDecodeTurned(t *testing.T) {
	for _, h := range rights() {
		for bit := range 64 {
			for _, block := range []int{1, 2, 255, h.Len} {
				checkRefused(t, block, wordOf(block, h)^1<<bit, api.ErrSum)
			}
		}
	}
	for _, block := range append(deviceBlocks(), otherBlocks()...) {
		for _, h := range some() {
			for bit := range 64 {
				checkRefused(t, block, wordOf(block, h)^1<<bit, api.ErrSum)
			}
		}
	}
}

// TestDecodeOther: P7.3, and P7.1, of Decode: the word of another block is ErrSum, whether the header is right or not.
func TestDecodeOther(t *testing.T) {
	for block := range 256 {
		for other := range 256 {
			if other == block {
				continue
			}
			for _, h := range some() {
				checkRefused(t, other, bhead.Encode(block, h), api.ErrSum)
			}
			checkRefused(t, other, sealed(4, block), api.ErrSum)
		}
	}
	for _, h := range rights() {
		w := bhead.Encode(7, h)
		for _, other := range []int{math.MinInt, -7, -1, 0, 1, 6, 8, 23, 39, 71, 135, 255, 256, 263, math.MaxInt} {
			checkRefused(t, other, w, api.ErrSum)
		}
		// The word's own number is no block's: the place is geom.Headers and the block.
		checkRefused(t, 7, sealed(numberOf(h), 7-headers), api.ErrSum)
		checkRefused(t, 7, sealed(numberOf(h), 7+headers), api.ErrSum)
	}
}

// TestDecodeRange: P7.1, of Decode: words that are sealed, but of a number that is no right header's.
func TestDecodeRange(t *testing.T) {
	rows := []uint32{
		0x4, 0x7c, 0x80, 0xfc, 0x100, 0xff00, 0x10000, // Free, with a class or a length
		0x81, 0x85, 0xfd, 0x101, 0x17d, 0xff01, 0x100001, // Small, with a class that there isn't, or a length
		0x2, 0x6, 0x106, 0x17e, 0x1fe, 0x10002, 0x10102, 0xffff02, // Large, with a class, or a wrong length
		0x3, 0x7, 0x107, 0x17f, 0x1ff, 0x10003, 0x10103, 0xffff03, // Cont, likewise
		0x1000000, 0x1000001, 0x1000102, 0x1000103, 0x80000000, 0x80000001, 0x80000102, 0xff000103, 0xffffffff, // bits beyond the fields
	}
	for _, block := range append(deviceBlocks(), otherBlocks()...) {
		for _, n := range rows {
			checkRefused(t, block, sealed(n, block), api.ErrRange)
		}
		for _, h := range rights() {
			for bit := 16; bit < 32; bit++ {
				checkRefused(t, block, sealed(numberOf(h)|1<<bit, block), api.ErrRange)
			}
		}
	}
}

// TestDecodeOfAll: P7.1, of Decode: of all numbers below 2^18 that are sealed just those of right headers lead back.
func TestDecodeOfAll(t *testing.T) {
	is := map[uint32]header{}
	for _, h := range rights() {
		is[numberOf(h)] = h
	}
	if len(is) != 543 {
		t.Fatalf("%d numbers, want 543", len(is))
	}
	for n := range uint32(1 << 18) {
		h, right := is[n]
		if right {
			checkDecode(t, 3, sealed(n, 3), h, api.OK)
		} else {
			checkRefused(t, 3, sealed(n, 3), api.ErrRange)
		}
	}
}

// TestDecodeOfMany: P7.1, of Decode: numbers of 32 bits of all kinds, sealed for the block or for the one behind it.
func TestDecodeOfMany(t *testing.T) {
	is := map[uint32]header{}
	for _, h := range rights() {
		is[numberOf(h)] = h
	}
	number := next(7)
	for range 200000 {
		n, block := uint32(number(1<<31)), number(256)
		n ^= uint32(number(2)) << 31
		h, right := is[n]
		checkRefused(t, block, sealed(n, block+1), api.ErrSum)
		if right {
			checkDecode(t, block, sealed(n, block), h, api.OK)
		} else {
			checkRefused(t, block, sealed(n, block), api.ErrRange)
		}
	}
}

// TestNought: P7.1: at this block a Free one's word is 0: that is sealed there, and is what Encode answers of it, as of what isn't right.
func TestNought(t *testing.T) {
	const block = 0x17cea6c500000000
	checkEncode(t, block, header{}, 0)
	checkDecode(t, block, 0, header{}, api.OK)
	checkEncode(t, block, header{4, 0, 0}, 0)
	checkRefused(t, block, sealed(4, block), api.ErrRange)
	checkRefused(t, block+1, 0, api.ErrSum)
}

// TestRun: P7.2, of Run, by headers that are written out.
func TestRun(t *testing.T) {
	checkRun(t, 0)
	checkRun(t, 1, header{2, 0, 1})
	checkRun(t, 2, header{2, 0, 2}, header{3, 0, 1})
	checkRun(t, 5, header{2, 0, 5}, header{3, 0, 1}, header{3, 0, 2}, header{3, 0, 3}, header{3, 0, 4})
}

// TestRunOfMany: P7.2, of Run, against the model: up to 255 and beyond it, though no device has as many blocks.
func TestRunOfMany(t *testing.T) {
	for many := range 600 {
		list := bhead.Run(many)
		checkRun(t, many, modelRun(many)...)
		if len(list) != many {
			t.Errorf("Run(%d) has %d headers", many, len(list))
		}
		for i, h := range list {
			// Right only as long as such a header may be.
			checkRight(t, h, i > 0 && i <= 255 || i == 0 && many <= 255)
		}
	}
	for _, many := range []int{1024, 65535, 65536, 65537, 1 << 20} {
		checkRun(t, many, modelRun(many)...)
	}
}

// TestRunOfNone: P7.2, of Run: none below 1.
func TestRunOfNone(t *testing.T) {
	for _, many := range []int{0, -1, -2, -255, -256, -1 << 20, math.MinInt32, math.MinInt + 1, math.MinInt} {
		checkRun(t, many)
	}
}

// TestWhole: P7.2, of Whole: large objects at the list's beginning, at its end and between them.
func TestWhole(t *testing.T) {
	list := []header{{2, 0, 1}, {2, 0, 3}, {3, 0, 1}, {3, 0, 2}, {0, 0, 0}, {1, 7, 0}, {2, 0, 2}, {3, 0, 1}, {3, 0, 2}, {2, 0, 2}, {2, 0, 1}}
	want := []int{1, 3, 0, 0, 0, 0, 2, 0, 0, 0, 1}
	for block, many := range want {
		checkWhole(t, list, block, many, many > 0)
	}
	checkWhole(t, []header{{2, 0, 1}}, 0, 1, true)
	checkWhole(t, []header{{2, 0, 2}, {3, 0, 1}}, 0, 2, true)
	checkWhole(t, []header{{0, 0, 0}, {2, 0, 2}, {3, 0, 1}}, 1, 2, true)
	checkWhole(t, []header{{2, 0, 1}, {3, 0, 1}}, 0, 1, true)
	checkWhole(t, []header{{2, 0, 1}, {3, 9, 9}, {2, 0, 1}}, 2, 1, true)
}

// TestWholeRuns: P7.2, of Whole: runs of all lengths, that end just where the list ends, ahead of it, or would end behind it.
func TestWholeRuns(t *testing.T) {
	for many := 1; many <= 300; many++ {
		for _, ahead := range []int{0, 1, 2, 7} {
			list := append(make([]header, ahead), bhead.Run(many)...)
			checkWhole(t, list, ahead, many, true)
			checkNotWhole(t, list[:len(list)-1], ahead)
			checkNotWhole(t, list, ahead+1)
			checkWhole(t, append(slices.Clone(list), header{2, 0, 1}), ahead, many, true)
			checkWhole(t, append(slices.Clone(list), header{3, 0, many}), ahead, many, true)
			checkWhole(t, append(list, header{}), ahead, many, true)
		}
	}
	long := bhead.Run(1 << 16)
	checkWhole(t, long, 0, 1<<16, true)
	checkNotWhole(t, long[:1<<16-1], 0)
}

// TestWholeDevice: P7.2, of Whole: the greatest large object that a device may have, from block 1 on.
func TestWholeDevice(t *testing.T) {
	list := append([]header{{}}, bhead.Run(255)...)
	checkWhole(t, list, 1, 255, true)
	for _, block := range []int{0, 2, 254, 255, 256} {
		checkNotWhole(t, list, block)
	}
	list[255] = header{2, 0, 1}
	checkNotWhole(t, list, 1)
	checkWhole(t, list, 255, 1, true)
}

// TestWholeBlock: P7.2, of Whole: no list, and blocks that a list doesn't have.
func TestWholeBlock(t *testing.T) {
	lists := [][]header{nil, {}, bhead.Run(1), bhead.Run(3), append(bhead.Run(1), bhead.Run(1)...), make([]header, 0, 4), bhead.Run(4)[:2]}
	for _, list := range lists {
		for _, block := range append(far(), len(list), len(list)+1) {
			checkNotWhole(t, list, block)
		}
	}
	checkNotWhole(t, nil, 0)
	checkNotWhole(t, []header{}, 0)
}

// TestWholeRoom: P7.2, of Whole: what lies in a list's spare room is not in the list.
func TestWholeRoom(t *testing.T) {
	list := bhead.Run(4)
	checkNotWhole(t, list[:0], 0)
	checkNotWhole(t, list[:3], 0)
	checkWhole(t, list[:4], 0, 4, true)
	checkNotWhole(t, list[1:], 0)
	checkWhole(t, append(bhead.Run(2), list...)[2:], 0, 4, true)
}

// TestWholeFirst: P7.2, of Whole: a first block that isn't Large, or whose Len isn't that of an object that there is.
func TestWholeFirst(t *testing.T) {
	for _, kind := range append(far(), 0, 1, 3, 4, 5, 6) {
		for _, n := range []int{0, 1, 2, 3} {
			checkNotWhole(t, []header{{kind, 0, n}, {3, 0, 1}, {3, 0, 2}}, 0)
			checkNotWhole(t, []header{{2, 0, 1}, {kind, 0, n}, {3, 0, 1}, {3, 0, 2}}, 1)
		}
	}
	for _, n := range append(far(), 0, 4, 5, 255, 256) {
		checkNotWhole(t, []header{{2, 0, n}, {3, 0, 1}, {3, 0, 2}}, 0)
		checkNotWhole(t, []header{{0, 0, 0}, {2, 0, n}, {3, 0, 1}, {3, 0, 2}}, 1)
		checkNotWhole(t, []header{{3, 0, 1}, {3, 0, 2}, {2, 0, n}}, 2)
	}
}

// TestWholeFirstClass: P7.2, of Whole: the words ask for Class 0 of the further blocks alone.
func TestWholeFirstClass(t *testing.T) {
	for _, k := range []int{-1, 1, 31, 32} {
		checkWhole(t, []header{{2, k, 2}, {3, 0, 1}}, 0, 2, true)
		checkWhole(t, []header{{2, k, 1}}, 0, 1, true)
		checkNotWhole(t, []header{{2, 0, 2}, {3, k, 1}}, 0)
	}
}

// TestWholeFurther: P7.2, of Whole: one further block that is another one is enough, wherever it is.
func TestWholeFurther(t *testing.T) {
	for _, many := range []int{2, 3, 5, 255} {
		for far := 1; far < many; far++ {
			others := []header{
				{0, 0, 0}, {0, 0, far}, {1, 0, 0}, {1, 0, far}, {2, 0, far}, {2, 0, 1}, {2, 0, many - far}, {4, 0, far}, {-1, 0, far}, {7, 0, far},
				{3, 0, 0}, {3, 0, far - 1}, {3, 0, far + 1}, {3, 0, -far}, {3, 0, many}, {3, 0, far + 256}, {3, 0, far + 1<<32}, {3, 0, math.MinInt}, {3, 0, math.MaxInt},
				{3, 1, far}, {3, -1, far}, {3, 31, far}, {3, 32, far}, {3, 64, far}, {3, math.MinInt, far}, {3, math.MaxInt, far},
			}
			for _, h := range others {
				list := bhead.Run(many)
				list[far] = h
				checkNotWhole(t, list, 0)
			}
		}
	}
}

// TestWholeOrder: P7.2, of Whole: further blocks in another order.
func TestWholeOrder(t *testing.T) {
	for many := 3; many <= 12; many++ {
		for i := 1; i < many; i++ {
			for j := i + 1; j < many; j++ {
				list := bhead.Run(many)
				list[i], list[j] = list[j], list[i]
				checkNotWhole(t, list, 0)
			}
		}
		list := bhead.Run(many)
		slices.Reverse(list[1:])
		checkNotWhole(t, list, 0)
		slices.Reverse(list)
		checkNotWhole(t, list, 0)
		checkNotWhole(t, list, many-1)
	}
}

// TestWholeOfMany: P7.2, of Whole, against the model: lists of runs, some of whose headers are others.
func TestWholeOfMany(t *testing.T) {
	number := next(3)
	whole := 0
	for range 100000 {
		var list []header
		for range number(5) {
			list = append(list, bhead.Run(number(6))...)
			list = append(list, make([]header, number(2))...)
		}
		for range number(3) {
			if len(list) > 0 {
				list[number(len(list))] = header{number(6) - 1, number(3) / 2, number(8) - 1}
			}
		}
		for block := -1; block <= len(list); block++ {
			many, is := modelWhole(list, block)
			checkWhole(t, list, block, many, is)
			if is {
				whole++
			}
		}
	}
	if whole < 10000 {
		t.Errorf("only %d blocks with a whole object: that is no test", whole)
	}
}

// TestNoOther: P7.3: no two right headers, and no two blocks, have the same word.
func TestNoOther(t *testing.T) {
	seen := map[uint64]bool{}
	for block := range 256 {
		for _, h := range rights() {
			w := bhead.Encode(block, h)
			if seen[w] {
				t.Errorf("Encode(%d, %v): %016x, which is another one's", block, h, w)
			}
			seen[w] = true
		}
	}
}

// TestLeft: P2: what is handed in stays as it was, what is answered is new, and it hangs on the arguments alone.
func TestLeft(t *testing.T) {
	list := []header{{0, 0, 0}, {2, 0, 2}, {3, 0, 1}, {1, 31, 0}}
	for range 3 {
		checkWhole(t, list, 1, 2, true)
		checkNotWhole(t, list, 0)
		run := bhead.Run(3)
		other := bhead.Run(3)
		checkRun(t, 3, header{2, 0, 3}, header{3, 0, 1}, header{3, 0, 2})
		clear(run)
		for i := range run[:cap(run)] {
			run[:cap(run)][i] = header{9, 9, 9}
		}
		if !slices.Equal(other, modelRun(3)) {
			t.Errorf("Run(3), answered ahead: %v", other)
		}
		checkEncode(t, 1, header{4, 0, 0}, 0)
		checkEncode(t, 1, header{1, 0, 0}, 0x280ed1ee00000001)
		checkRefused(t, 2, 0x280ed1ee00000001, api.ErrSum)
		checkDecode(t, 1, 0x280ed1ee00000001, header{1, 0, 0}, api.OK)
		checkRefused(t, 1, sealed(2, 1), api.ErrRange)
		h := header{2, 0, 255}
		checkRight(t, h, true)
		if h != (header{2, 0, 255}) {
			t.Errorf("a header that was asked: %v", h)
		}
	}
}

// TestAllEnd: P1: no call panics, at the farthest arguments together.
func TestAllEnd(t *testing.T) {
	numbers := append(far(), 0, 1, 2, 3, 4, 31, 32, 255, 256)
	for _, kind := range numbers {
		for _, k := range numbers {
			for _, n := range numbers {
				h := header{kind, k, n}
				h.Right()
				bhead.Encode(kind, h)
				bhead.Encode(n, h)
				for _, block := range []int{0, 1, n} {
					bhead.Whole([]header{h, h}, block)
				}
			}
			bhead.Decode(kind, uint64(k))
			bhead.Decode(kind, sealed(uint32(k), kind))
		}
	}
	for _, many := range numbers {
		if many <= 1<<20 {
			bhead.Run(many)
		}
	}
	// Of so many, of which nothing is promised, there may not be room.
	bhead.Run(math.MaxInt)
}
