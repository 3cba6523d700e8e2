package ohead_test

import (
	"encoding/binary"
	"hash/crc32"
	"math"
	"testing"

	"taproot/api"
	"taproot/ohead"
)

// The models' words are summed by the library's CRC-32, and their fields are put together by products, not by shifts.

// object is how many pointers and words of data one has.
type object = ohead.Object

// sealed is a word of that number, for the address.
func sealed(n uint32, at int) uint64 {
	data := binary.LittleEndian.AppendUint64(nil, uint64(n))
	data = binary.LittleEndian.AppendUint64(data, uint64(at))
	return uint64(crc32.ChecksumIEEE(data))*(1<<32) + uint64(n)
}

// numberOf is the number that the word of an object that may be is sealed of.
func numberOf(o object) uint32 {
	return uint32(165 + 256*o.Ptrs + 16384*o.Datas)
}

// wordOf is the word at an address of an object that may be.
func wordOf(at int, o object) uint64 {
	return sealed(numberOf(o), at)
}

// modelOf is the object that is in a number; false, if none that may be is.
func modelOf(n uint32) (object, bool) {
	mark, ptrs, datas := int(n%256), int(n/256%64), int(n/16384)
	if mark != 165 || datas > 16384 {
		return object{}, false
	}
	return object{Ptrs: ptrs, Datas: datas}, true
}

// all are all objects that may be.
func all() []object {
	list := make([]object, 0, 64*16385)
	for ptrs := range 64 {
		for datas := range 16385 {
			list = append(list, object{ptrs, datas})
		}
	}
	return list
}

// some are objects that may be, at the edges and between them.
func some() []object {
	var list []object
	for _, ptrs := range []int{0, 1, 2, 31, 32, 62, 63} {
		for _, datas := range []int{0, 1, 3, 192, 255, 256, 447, 448, 511, 512, 599, 1023, 8191, 8192, 16383, 16384} {
			list = append(list, object{ptrs, datas})
		}
	}
	return list
}

// far are numbers that no object has of pointers or of words of data.
func far() []int {
	return []int{
		math.MinInt, math.MinInt + 1, math.MinInt + 63, math.MinInt + 16384, math.MinInt64 / 2, math.MinInt32 - 1, math.MinInt32, -1 << 20,
		-32768, -16385, -16384, -257, -256, -65, -64, -63, -32, -3, -2, -1,
		16385, 16386, 16448, 32767, 32768, 1 << 20, 1<<20 + 1, math.MaxInt32, math.MaxInt32 + 1, math.MaxUint32, 1 << 32, 1<<32 + 1, 1<<32 + 63, 1 << 62,
		math.MaxInt - 16448, math.MaxInt - 16384, math.MaxInt - 63, math.MaxInt - 1, math.MaxInt,
	}
}

// wrongs are objects that may not be: for one thing alone, or for both.
func wrongs() []object {
	var list []object
	for _, ptrs := range append(far(), 64, 65, 127, 128, 255, 256, 16384) {
		for _, datas := range []int{0, 1, 3, 255, 600, 16383, 16384} {
			list = append(list, object{ptrs, datas})
		}
	}
	for _, datas := range far() {
		for _, ptrs := range []int{0, 1, 2, 62, 63} {
			list = append(list, object{ptrs, datas})
		}
		// Both at once: sums of some of them are sizes that may be.
		list = append(list, object{datas, datas}, object{-1, datas}, object{64, datas}, object{1 - datas, datas}, object{-datas, datas})
	}
	return list
}

// places are addresses on devices, and any other ints.
func places() []int {
	return append(far(), 0, 1, 2, 7, 8, 64, 256, 259, 511, 512, 513, 514, 600, 1023, 1024, 4095, 8192, 65535, 65536, 131064, 131071, 131072)
}

// next is a generator of numbers below n, always the same ones.
func next(seed uint64) func(n int) int {
	return func(n int) int {
		seed = seed*6364136223846793005 + 1442695040888963407
		return int(seed>>33) % n
	}
}

// checkSize holds what Size answers against the number of words that is asked for.
func checkSize(t *testing.T, o object, want int) {
	t.Helper()
	if got := o.Size(); got != want {
		t.Errorf("Size of %v: %d, want %d", o, got, want)
	}
}

// checkEncode holds what Encode answers against the word that is asked for.
func checkEncode(t *testing.T, at int, o object, want uint64) {
	t.Helper()
	if got := o.Encode(at); got != want {
		t.Errorf("Encode(%d) of %v: %016x, want %016x", at, o, got, want)
	}
}

// checkDecode holds what Decode answers against what is asked for.
func checkDecode(t *testing.T, at int, w uint64, want object, wantErr api.Errno) {
	t.Helper()
	if got, err := ohead.Decode(at, w); got != want || err != wantErr {
		t.Errorf("Decode(%d, %016x): %v, error %d, want %v, error %d", at, w, got, err, want, wantErr)
	}
}

// checkRefused: Decode answers that error, and beside it the zero object.
func checkRefused(t *testing.T, at int, w uint64, want api.Errno) {
	t.Helper()
	checkDecode(t, at, w, object{}, want)
}

// checkPtr holds what Ptr answers against what is asked for.
func checkPtr(t *testing.T, o object, i, want int, wantIs bool) {
	t.Helper()
	if got, is := o.Ptr(i); got != want || is != wantIs {
		t.Errorf("Ptr(%d) of %v: %d, %v, want %d, %v", i, o, got, is, want, wantIs)
	}
}

// checkData holds what Data answers against what is asked for.
func checkData(t *testing.T, o object, i, want int, wantIs bool) {
	t.Helper()
	if got, is := o.Data(i); got != want || is != wantIs {
		t.Errorf("Data(%d) of %v: %d, %v, want %d, %v", i, o, got, is, want, wantIs)
	}
}

// checkSmall holds what Small answers against what is asked for.
func checkSmall(t *testing.T, o object, want int, wantIs bool) {
	t.Helper()
	if got, is := o.Small(); got != want || is != wantIs {
		t.Errorf("Small of %v: %d, %v, want %d, %v", o, got, is, want, wantIs)
	}
}

// checkBlocks holds what Blocks answers against the number that is asked for.
func checkBlocks(t *testing.T, o object, want int) {
	t.Helper()
	if got := o.Blocks(); got != want {
		t.Errorf("Blocks of %v: %d, want %d", o, got, want)
	}
}

// TestExample: the chapter's example.
func TestExample(t *testing.T) {
	o := object{Ptrs: 2, Datas: 3}
	checkSize(t, o, 6)
	checkData(t, o, 0, 3, true)
}

// TestMark: the constant, and that it is in each header.
func TestMark(t *testing.T) {
	const mark uint8 = ohead.Mark
	if mark != 165 {
		t.Errorf("Mark: %d, want 165", mark)
	}
	for _, o := range some() {
		if got := o.Encode(512) & 255; got != ohead.Mark {
			t.Errorf("the lowest bits of the Encode(512) of %v: %d, want Mark", o, got)
		}
	}
}

// TestSize: P8.1, of Size, by numbers that are written out.
func TestSize(t *testing.T) {
	rows := []struct{ ptrs, datas, size int }{
		{0, 0, 1}, {1, 0, 2}, {0, 1, 2}, {1, 1, 3}, {2, 3, 6}, {3, 5, 9}, {63, 0, 64}, {62, 1, 64}, {63, 192, 256}, {0, 255, 256}, {0, 256, 257},
		{0, 511, 512}, {0, 512, 513}, {0, 599, 600}, {0, 16384, 16385}, {1, 16383, 16385}, {63, 16383, 16447}, {63, 16384, 16448},
	}
	for _, r := range rows {
		checkSize(t, object{r.ptrs, r.datas}, r.size)
	}
}

// TestWrong: P8.1 and P8.2, of objects that may not be: Size, Encode and Blocks are 0, and they are of no class.
func TestWrong(t *testing.T) {
	for _, o := range wrongs() {
		checkSize(t, o, 0)
		checkBlocks(t, o, 0)
		checkSmall(t, o, 0, false)
		for _, at := range places() {
			checkEncode(t, at, o, 0)
		}
	}
}

// TestSizeOfAll: P8.1, of Size, and P8.2, of Small and Blocks: all pairs of small numbers, against the model.
func TestSizeOfAll(t *testing.T) {
	classes, blocks := modelClasses(), modelBlocks()
	for ptrs := -2; ptrs <= 66; ptrs++ {
		for datas := -2; datas <= 16388; datas++ {
			o := object{ptrs, datas}
			size := 0
			if ptrs >= 0 && ptrs < 64 && datas >= 0 && datas < 16385 {
				size = 1 + ptrs + datas
			}
			checkSize(t, o, size)
			if k, small := classes[size]; small {
				checkSmall(t, o, k, true)
				checkBlocks(t, o, 0)
			} else {
				checkSmall(t, o, 0, false)
				checkBlocks(t, o, blocks[size])
			}
		}
	}
}

// modelClasses is, of each size of a small object, its class: counted on from cell to cell.
func modelClasses() map[int]int {
	cells := []int{
		2, 3, 4, 5, 6, 7, 8, 10, 12, 14, 16, 18, 20, 24, 28, 32,
		36, 40, 46, 51, 56, 64, 73, 85, 92, 102, 113, 128, 146, 170, 204, 256,
	}
	classes := map[int]int{}
	size := 1
	for k, most := range cells {
		for ; size <= most; size++ {
			classes[size] = k
		}
	}
	return classes
}

// modelBlocks is, of each size, how many blocks it needs: counted word by word.
func modelBlocks() []int {
	list := []int{0}
	blocks, room := 0, 0
	for len(list) <= 1+63+16384 {
		if room == 0 {
			blocks, room = blocks+1, 512
		}
		room--
		list = append(list, blocks)
	}
	return list
}

// row is an object at an address, with its word.
type row struct {
	at   int
	o    object
	word uint64
}

// TestWords: P8.1, of Encode and Decode, by words that are written out: objects of several sizes, on a device and at any other int.
func TestWords(t *testing.T) {
	rows := []row{
		{0, object{0, 0}, 0xdd2000ca000000a5}, {1, object{0, 0}, 0x118a0054000000a5},
		{512, object{2, 3}, 0x66452bb40000c2a5}, {513, object{2, 3}, 0xaaef2b2a0000c2a5},
		{512, object{1, 0}, 0xf344ca0b000001a5}, {512, object{0, 1}, 0x80446a9e000040a5},
		{700, object{63, 0}, 0x53c9b04700003fa5}, {700, object{0, 256}, 0x8a5f25fa004000a5}, {514, object{0, 255}, 0x71a46d1a003fc0a5},
		{1024, object{0, 599}, 0xcc7112fc0095c0a5}, {2048, object{0, 511}, 0xd648c2d8007fc0a5}, {2048, object{0, 512}, 0x6dbca14f008000a5},
		{131071, object{63, 16384}, 0x8e295b2f10003fa5}, {131064, object{0, 16384}, 0x1cc3307a100000a5}, {512, object{63, 16384}, 0x6697d57510003fa5},
		{1048576, object{31, 8191}, 0x089b3b4c07ffdfa5}, {-1, object{2, 3}, 0xb5bc3ae80000c2a5}, {1 << 32, object{2, 3}, 0x49665df80000c2a5},
		{math.MaxInt, object{63, 16384}, 0x58d6470910003fa5}, {math.MinInt, object{0, 0}, 0x309883ea000000a5},
	}
	for _, r := range rows {
		checkEncode(t, r.at, r.o, r.word)
		checkDecode(t, r.at, r.word, r.o, api.OK)
	}
}

// TestAll: P8.1 and P8.3, against the model: all objects that may be, led back from their words, at all addresses of a device in turn.
func TestAll(t *testing.T) {
	for i, o := range all() {
		at := i % 131072
		w := wordOf(at, o)
		checkEncode(t, at, o, w)
		checkDecode(t, at, w, o, api.OK)
	}
}

// TestPlaces: P8.1 and P8.3, against the model: objects led back from their words, at all kinds of addresses, and at all of a block.
func TestPlaces(t *testing.T) {
	list := places()
	for at := range 1024 {
		list = append(list, at)
	}
	for _, at := range list {
		for _, o := range some() {
			w := wordOf(at, o)
			checkEncode(t, at, o, w)
			checkDecode(t, at, w, o, api.OK)
		}
	}
}

// TestDecodeSum: P8.1, of Decode: words that aren't sealed.
func TestDecodeSum(t *testing.T) {
	for _, at := range places() {
		for _, o := range some() {
			n, w := uint64(numberOf(o)), wordOf(at, o)
			checkRefused(t, at, n, api.ErrSum)
			checkRefused(t, at, n|0xffffffff<<32, api.ErrSum)
			checkRefused(t, at, w+1<<32, api.ErrSum)
			checkRefused(t, at, w-1<<32, api.ErrSum)
			checkRefused(t, at, w>>32<<32, api.ErrSum)
			// The halves the other way round.
			checkRefused(t, at, w>>32|w<<32, api.ErrSum)
		}
		for _, w := range []uint64{0, 1, 0xa5, 0xc2a5, 0x0123456789abcdef, 1 << 32, 1 << 63, math.MaxUint32, math.MaxUint64 - 1} {
			checkRefused(t, at, w, api.ErrSum)
		}
	}
}

// TestDecodeTurned: P8.1, of Decode: any single bit of a word that is turned is ErrSum.
func TestDecodeTurned(t *testing.T) {
	for _, at := range places() {
		for _, o := range some() {
			for bit := range 64 {
				checkRefused(t, at, wordOf(at, o)^1<<bit, api.ErrSum)
			}
		}
	}
}

// TestDecodeOther: P8.1, of Decode: the word of another address is ErrSum, whether the object may be or not.
func TestDecodeOther(t *testing.T) {
	for at := range 256 {
		for other := range 256 {
			if other == at {
				continue
			}
			checkRefused(t, other, object{2, 3}.Encode(at), api.ErrSum)
			checkRefused(t, other, object{63, 16384}.Encode(at), api.ErrSum)
			checkRefused(t, other, sealed(0xa4, at), api.ErrSum)
		}
	}
	for _, o := range some() {
		w := o.Encode(1024)
		for _, other := range []int{math.MinInt, -1024, -1, 0, 1, 2, 512, 768, 1016, 1023, 1025, 1032, 1280, 1536, 131071, 1024 + 1<<32, math.MaxInt} {
			checkRefused(t, other, w, api.ErrSum)
		}
	}
}

// TestDecodeRange: P8.1, of Decode: words that are sealed at the address, but with another mark, with data beyond the most, or with bits beyond the fields.
func TestDecodeRange(t *testing.T) {
	rows := []uint32{
		0, 1, 0xff, 0x100, 0xa4, 0xa7, 0x25, 0x5a, 0xc2a4, 0xc200, 0xc25a, 0x10003fa4, 0x10003f00, // another mark
		0x100040a5, 0x100041a5, 0x10007fa5, 0x100080a5, 0x1fffc0a5, 0x1fffffa5, 0x180000a5, // data from 16385 on
		0x200000a5, 0x2000c2a5, 0x400000a5, 0x4000c2a5, 0x800000a5, 0x8000c2a5, 0xe00000a5, 0xf0003fa5, 0xffffffff, // bits beyond the fields
	}
	for _, at := range places() {
		for _, n := range rows {
			checkRefused(t, at, sealed(n, at), api.ErrRange)
		}
		for _, o := range some() {
			for bit := 29; bit < 32; bit++ {
				checkRefused(t, at, sealed(numberOf(o)|1<<bit, at), api.ErrRange)
			}
			for bit := range 8 {
				checkRefused(t, at, sealed(numberOf(o)^1<<bit, at), api.ErrRange)
			}
		}
	}
	for ptrs := range 64 {
		for datas := 16385; datas < 32768; datas += 7 {
			checkRefused(t, 512, sealed(numberOf(object{ptrs, datas}), 512), api.ErrRange)
		}
		checkRefused(t, 512, sealed(numberOf(object{ptrs, 32767}), 512), api.ErrRange)
	}
}

// TestDecodeOfMarks: P8.1, of Decode: of all numbers below 2^18 that are sealed just those with the mark lead back.
func TestDecodeOfMarks(t *testing.T) {
	found := 0
	for n := range uint32(1 << 18) {
		o, may := modelOf(n)
		if may {
			found++
			checkDecode(t, 513, sealed(n, 513), o, api.OK)
		} else {
			checkRefused(t, 513, sealed(n, 513), api.ErrRange)
		}
	}
	if found != 1024 {
		t.Errorf("%d objects, want 1024: that is no test", found)
	}
}

// TestDecodeOfMany: P8.1, of Decode, against the model: numbers of 32 bits of all kinds, sealed at the address, or at the next one.
func TestDecodeOfMany(t *testing.T) {
	number := next(8)
	found := 0
	for range 300000 {
		n, at := uint32(number(1<<31)), number(131072)
		n ^= uint32(number(2)) << 31
		if number(4) > 0 {
			n = n/256*256 + 165
		}
		if number(2) > 0 {
			n %= 1 << 29
		}
		checkRefused(t, at, sealed(n, at+1), api.ErrSum)
		if o, may := modelOf(n); may {
			found++
			checkDecode(t, at, sealed(n, at), o, api.OK)
		} else {
			checkRefused(t, at, sealed(n, at), api.ErrRange)
		}
	}
	if found < 50000 {
		t.Errorf("only %d objects: that is no test", found)
	}
}

// TestOnes: P8.1, of Decode: at address 0 a word of ones is sealed, and is no object's; at others it isn't sealed.
func TestOnes(t *testing.T) {
	checkRefused(t, 0, math.MaxUint64, api.ErrRange)
	for _, at := range []int{-1, 1, 8, 512, 131071} {
		checkRefused(t, at, math.MaxUint64, api.ErrSum)
	}
}

// TestNought: P8.1: at this address 0 is sealed, and is what Encode answers of an object that may not be; it is no object's.
func TestNought(t *testing.T) {
	const at = 0x17cea6c500000100
	if w := sealed(0, at); w != 0 {
		t.Fatalf("%016x: that is no test", w)
	}
	checkRefused(t, at, 0, api.ErrRange)
	checkRefused(t, at+1, 0, api.ErrSum)
	checkEncode(t, at, object{64, 0}, 0)
	checkEncode(t, at, object{0, 16385}, 0)
}

// TestPtr: P8.2, of Ptr, by numbers that are written out: the first and the last pointer, and one beyond.
func TestPtr(t *testing.T) {
	rows := []struct {
		o    object
		i    int
		want int
		is   bool
	}{
		{object{2, 3}, 0, 1, true}, {object{2, 3}, 1, 2, true}, {object{2, 3}, 2, 3, false}, {object{2, 3}, 3, 4, false},
		{object{0, 0}, 0, 1, false}, {object{0, 0}, 1, 2, false}, {object{0, 16384}, 0, 1, false}, {object{1, 0}, 0, 1, true}, {object{1, 0}, 1, 2, false},
		{object{63, 0}, 0, 1, true}, {object{63, 0}, 62, 63, true}, {object{63, 0}, 63, 64, false}, {object{63, 16384}, 62, 63, true}, {object{63, 16384}, 63, 64, false},
		{object{63, 16384}, 16384, 16385, false}, {object{2, 3}, 1 << 20, 1<<20 + 1, false}, {object{63, 16384}, 1<<20 - 1, 1 << 20, false},
	}
	for _, r := range rows {
		checkPtr(t, r.o, r.i, r.want, r.is)
	}
}

// TestData: P8.2, of Data, by numbers that are written out: the first and the last word of data, and one beyond.
func TestData(t *testing.T) {
	rows := []struct {
		o    object
		i    int
		want int
		is   bool
	}{
		{object{2, 3}, 0, 3, true}, {object{2, 3}, 1, 4, true}, {object{2, 3}, 2, 5, true}, {object{2, 3}, 3, 6, false}, {object{2, 3}, 4, 7, false},
		{object{0, 0}, 0, 1, false}, {object{0, 0}, 1, 2, false}, {object{63, 0}, 0, 64, false}, {object{0, 1}, 0, 1, true}, {object{0, 1}, 1, 2, false},
		{object{0, 16384}, 0, 1, true}, {object{0, 16384}, 16383, 16384, true}, {object{0, 16384}, 16384, 16385, false},
		{object{63, 16384}, 0, 64, true}, {object{63, 16384}, 16383, 16447, true}, {object{63, 16384}, 16384, 16448, false},
		{object{2, 3}, 1 << 20, 1<<20 + 3, false}, {object{63, 16384}, 1 << 20, 1<<20 + 64, false}, {object{63, 16384}, 1<<20 - 1, 1<<20 + 63, false},
	}
	for _, r := range rows {
		checkData(t, r.o, r.i, r.want, r.is)
	}
}

// TestFields: P8.2, of Ptr and Data, against a walk over each object's words: behind the header all pointers, behind these all words of data.
func TestFields(t *testing.T) {
	for _, o := range some() {
		word := 0
		for i := range o.Ptrs {
			word++
			checkPtr(t, o, i, word, true)
		}
		for i := range o.Datas {
			word++
			checkData(t, o, i, word, true)
		}
		if word+1 != o.Size() {
			t.Errorf("%v has %d words behind its header, and its Size is %d", o, word, o.Size())
		}
		for _, beyond := range []int{0, 1, 2, 17, 63, 64, 447, 16384, 1 << 19} {
			checkPtr(t, o, o.Ptrs+beyond, o.Ptrs+beyond+1, false)
			checkData(t, o, o.Datas+beyond, o.Ptrs+o.Datas+beyond+1, false)
		}
	}
}

// TestNoField: P8.2, of Ptr and Data: numbers that no pointer and no word of data has; what is told beside false isn't promised below 0 and beyond 2^20.
func TestNoField(t *testing.T) {
	for _, o := range some() {
		for _, i := range far() {
			if _, is := o.Ptr(i); is {
				t.Errorf("Ptr(%d) of %v: true, want false", i, o)
			}
			if _, is := o.Data(i); is {
				t.Errorf("Data(%d) of %v: true, want false", i, o)
			}
		}
	}
}

// TestSmall: P8.2, of Small, by numbers that are written out: the sizes at which a class ends, the greatest small one, and the next one.
func TestSmall(t *testing.T) {
	rows := []struct {
		o     object
		class int
		small bool
	}{
		{object{0, 0}, 0, true}, {object{1, 0}, 0, true}, {object{1, 1}, 1, true}, {object{2, 3}, 4, true}, {object{3, 5}, 7, true}, {object{4, 5}, 7, true}, {object{5, 5}, 8, true},
		{object{63, 0}, 21, true}, {object{63, 1}, 22, true}, {object{0, 203}, 30, true}, {object{0, 204}, 31, true},
		{object{0, 255}, 31, true}, {object{63, 192}, 31, true}, {object{0, 256}, 0, false}, {object{63, 193}, 0, false}, {object{1, 255}, 0, false},
		{object{0, 511}, 0, false}, {object{63, 16384}, 0, false},
	}
	for _, r := range rows {
		checkSmall(t, r.o, r.class, r.small)
	}
}

// TestBlocks: P8.2, of Blocks, by numbers that are written out: small ones, Sizes that fill their blocks just so, and one more.
func TestBlocks(t *testing.T) {
	rows := []struct {
		o      object
		blocks int
	}{
		{object{0, 0}, 0}, {object{2, 3}, 0}, {object{0, 255}, 0}, {object{63, 192}, 0}, {object{0, 256}, 1}, {object{63, 193}, 1},
		{object{0, 510}, 1}, {object{0, 511}, 1}, {object{63, 448}, 1}, {object{0, 512}, 2}, {object{63, 449}, 2}, {object{0, 599}, 2},
		{object{0, 1023}, 2}, {object{0, 1024}, 3}, {object{63, 960}, 2}, {object{63, 961}, 3},
		{object{0, 16383}, 32}, {object{0, 16384}, 33}, {object{63, 16320}, 32}, {object{63, 16321}, 33}, {object{63, 16384}, 33},
	}
	for _, r := range rows {
		checkBlocks(t, r.o, r.blocks)
	}
}

// TestNoOther: P8.3: no two objects, and no two addresses, have the same word.
func TestNoOther(t *testing.T) {
	seen := map[uint64]bool{}
	for at := 500; at < 1100; at++ {
		for _, o := range some() {
			w := o.Encode(at)
			if seen[w] {
				t.Errorf("Encode(%d) of %v: %016x, which is another one's", at, o, w)
			}
			seen[w] = true
		}
	}
}

// TestLeft: P2: an object that was asked stays as it was, and what is answered hangs on the arguments alone.
func TestLeft(t *testing.T) {
	o, other := object{2, 3}, object{64, 3}
	for range 3 {
		checkEncode(t, 512, o, 0x66452bb40000c2a5)
		checkEncode(t, 512, other, 0)
		checkDecode(t, 512, 0x66452bb40000c2a5, object{2, 3}, api.OK)
		checkRefused(t, 513, 0x66452bb40000c2a5, api.ErrSum)
		checkRefused(t, 512, sealed(0xa4, 512), api.ErrRange)
		checkSize(t, o, 6)
		checkSize(t, other, 0)
		checkPtr(t, o, 1, 2, true)
		checkPtr(t, o, 2, 3, false)
		checkData(t, o, 2, 5, true)
		checkData(t, o, 3, 6, false)
		checkSmall(t, o, 4, true)
		checkBlocks(t, o, 0)
		if o != (object{2, 3}) || other != (object{64, 3}) {
			t.Errorf("objects that were asked: %v, %v", o, other)
		}
	}
}

// TestAllEnd: P1: no call panics, at the farthest arguments together.
func TestAllEnd(t *testing.T) {
	numbers := append(far(), 0, 1, 2, 3, 62, 63, 64, 255, 256, 511, 512, 16383, 16384)
	for _, ptrs := range numbers {
		for _, datas := range numbers {
			o := object{ptrs, datas}
			o.Size()
			o.Small()
			o.Blocks()
			for _, i := range numbers {
				o.Ptr(i)
				o.Data(i)
				o.Encode(i)
			}
			ohead.Decode(ptrs, uint64(datas))
			ohead.Decode(ptrs, sealed(uint32(datas), ptrs))
		}
	}
}
