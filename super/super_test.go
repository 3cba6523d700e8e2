package super_test

import (
	"encoding/binary"
	"hash/crc32"
	"math"
	"reflect"
	"slices"
	"testing"

	"taproot/api"
	"taproot/nvm"
	"taproot/super"
)

// line is a line's words.
type line = [8]uint64

// The model's words are written out as the chapter tells them, and summed by the library's CRC-32.

const magic = 0x746f6f7270617431

// summed is a line whose last word is the sum of the others.
func summed(l line) line {
	var data []byte
	for _, w := range l[:7] {
		data = binary.LittleEndian.AppendUint64(data, w)
	}
	l[7] = uint64(crc32.ChecksumIEEE(data))
	return l
}

// lineOf is the line that tells so many blocks and that number.
func lineOf(blocks, id uint64) line {
	return summed(line{magic, 1, blocks, id})
}

// modelDecode takes a line's words one by one.
func modelDecode(l line) (super.Super, api.Errno) {
	if l[0] != magic {
		return super.Super{}, api.ErrMagic
	}
	if l != summed(l) {
		return super.Super{}, api.ErrSum
	}
	if l[1] != 1 || l[2] < 2 || l[2] > 256 || l[4] != 0 || l[5] != 0 || l[6] != 0 {
		return super.Super{}, api.ErrRange
	}
	return super.Super{Blocks: int(l[2]), ID: l[3]}, api.OK
}

// modelRead is what a device tells that begins with a line and has so many words.
func modelRead(l line, words int) (super.Super, api.Errno) {
	s, err := modelDecode(l)
	if err != api.OK || words != 512*s.Blocks {
		return super.Super{}, api.ErrSuper
	}
	return s, api.OK
}

// ids are numbers of all kinds.
func ids() []uint64 {
	return []uint64{0, 1, 2, 7, 256, 0xffffffff, 1 << 32, magic, 0x0123456789abcdef, 1 << 63, math.MaxUint64 - 1, math.MaxUint64}
}

// farBlocks are numbers of blocks that aren't right.
func farBlocks() []int {
	return []int{
		math.MinInt, math.MinInt + 2, math.MinInt32, -256, -2, -1, 0, 1,
		257, 258, 511, 512, 1024, 1 << 16, 1<<16 + 2, 1 << 20, 1<<31 - 1, 1 << 31, 1 << 32, 1<<32 + 2,
		1 << 54, 1<<55 + 2, 1<<55 + 256, math.MaxInt - 1, math.MaxInt,
	}
}

// fates are choices for the first lines of a crash, from nothing that is kept to all.
func fates() [][]uint8 {
	all := [][]uint8{nil}
	for first := range uint8(3) {
		for second := range uint8(3) {
			all = append(all, []uint8{first, second, nvm.Lost}, []uint8{first, second, nvm.Kept})
		}
	}
	return all
}

// shot is all that a device tells.
type shot struct {
	Len, Steps   int
	Dead         bool
	Now, Lasting []uint64
	Dirty        []int
	Flushed      []uint64 // what lasts behind a crash that keeps what is pending
}

func shotOf(d *nvm.Device) shot {
	s := shot{Len: d.Len(), Steps: d.Steps(), Dead: d.Dead(), Lasting: d.All()}
	for at := range d.Len() {
		s.Now = append(s.Now, d.Get(at))
	}
	s.Dirty = append(s.Dirty, d.Dirty()...)
	s.Flushed = d.Crash(slices.Repeat([]uint8{nvm.Flushed}, d.Lines())...).All()
	return s
}

// check holds an error against the one that is asked for.
func check(t *testing.T, what string, got, want api.Errno) {
	t.Helper()
	if got != want {
		t.Errorf("%s: error %d, want %d", what, got, want)
	}
}

// checkLine holds a line against the one that is asked for.
func checkLine(t *testing.T, what string, got, want line) {
	t.Helper()
	if got != want {
		t.Errorf("%s: %x, want %x", what, got, want)
	}
}

// checkSame tells what a call has changed that should have changed nothing.
func checkSame(t *testing.T, what string, d *nvm.Device, before shot) {
	t.Helper()
	if after := shotOf(d); !reflect.DeepEqual(after, before) {
		t.Errorf("%s: the device is another one than before it", what)
	}
}

// checkDecode holds what Decode answers against what is asked for; beside an error that is nothing.
func checkDecode(t *testing.T, what string, l line, want super.Super, wantErr api.Errno) {
	t.Helper()
	got, err := super.Decode(l)
	if got != want || err != wantErr {
		t.Errorf("%s: Decode(%x): %v, error %d, want %v, error %d", what, l, got, err, want, wantErr)
	}
}

// checkRefused: Decode answers that error.
func checkRefused(t *testing.T, what string, l line, want api.Errno) {
	t.Helper()
	checkDecode(t, what, l, super.Super{}, want)
}

// checkRead holds what Read answers against what is asked for; it changes nothing.
func checkRead(t *testing.T, what string, d *nvm.Device, want super.Super, wantErr api.Errno) {
	t.Helper()
	steps, dead := d.Steps(), d.Dead()
	got, err := super.Read(d)
	if got != want || err != wantErr {
		t.Errorf("%s: Read: %v, error %d, want %v, error %d", what, got, err, want, wantErr)
	}
	if d.Steps() != steps || d.Dead() != dead {
		t.Errorf("%s: Read did steps", what)
	}
}

// checkNoSuper: Read answers ErrSuper.
func checkNoSuper(t *testing.T, what string, d *nvm.Device) {
	t.Helper()
	checkRead(t, what, d, super.Super{}, api.ErrSuper)
}

// beginning is a device of so many words that lasts with that line ahead, and with other words than noughts behind it.
func beginning(l line, words int) *nvm.Device {
	list := make([]uint64, words)
	for i := range list {
		list[i] = uint64(i)*0x9e3779b97f4a7c15 + 1
	}
	copy(list, l[:])
	return nvm.Load(list...)
}

// firstLasting is a device's first line as it lasts.
func firstLasting(d *nvm.Device) line {
	var l line
	for i := range l {
		l[i] = d.Lasting(i)
	}
	return l
}

// TestExample: the chapter's example.
func TestExample(t *testing.T) {
	if got := (super.Super{Blocks: 2}).Encode()[2]; got != 2 {
		t.Errorf("the third word: %d, want 2", got)
	}
}

// TestEncode: P5.1, of Encode, by numbers that are written out.
func TestEncode(t *testing.T) {
	if super.Magic != 0x746f6f7270617431 || super.Version != 1 {
		t.Errorf("Magic %x, Version %d, want 746f6f7270617431, 1", uint64(super.Magic), super.Version)
	}
	rows := []struct {
		blocks int
		id     uint64
		sum    uint64
	}{
		{0, 0, 0xb06cfba6}, {1, 0, 0x1f2869e1},
		{2, 0, 0x3594d969}, {2, 1, 0xc44edcc3}, {2, 7, 0x8d01cbfc}, {2, 0xffffffffffffffff, 0xaceefb2d},
		{3, 0x0123456789abcdef, 0x91b9f7c8}, {255, 0, 0x59f88ec3},
		{256, 0, 0xfee5f00f}, {256, 0xffffffffffffffff, 0x679fd24b}, {257, 5, 0xd1f17dc8},
		{1 << 20, 0, 0x05de08cb}, {1<<31 - 1, 1, 0xf0a5d528}, {math.MaxInt, 0xffffffffffffffff, 0xd2a15453},
	}
	for _, r := range rows {
		want := line{0x746f6f7270617431, 1, uint64(r.blocks), r.id, 0, 0, 0, r.sum}
		checkLine(t, "Encode", super.Super{Blocks: r.blocks, ID: r.id}.Encode(), want)
	}
}

// TestEncodeOfMany: P5.1, of Encode, against the model: right ones and others alike.
func TestEncodeOfMany(t *testing.T) {
	for blocks := range 1000 {
		for _, id := range ids() {
			checkLine(t, "Encode", super.Super{Blocks: blocks, ID: id}.Encode(), lineOf(uint64(blocks), id))
		}
	}
	for _, blocks := range farBlocks() {
		if blocks >= 0 {
			checkLine(t, "Encode", super.Super{Blocks: blocks, ID: 3}.Encode(), lineOf(uint64(blocks), 3))
		}
	}
}

// TestDecode: P5.1, of Decode: each right superblock's line tells it.
func TestDecode(t *testing.T) {
	checkDecode(t, "written out", line{0x746f6f7270617431, 1, 2, 7, 0, 0, 0, 0x8d01cbfc}, super.Super{Blocks: 2, ID: 7}, api.OK)
	checkDecode(t, "written out", line{0x746f6f7270617431, 1, 256, 0xffffffffffffffff, 0, 0, 0, 0x679fd24b}, super.Super{Blocks: 256, ID: math.MaxUint64}, api.OK)
	for blocks := 2; blocks <= 256; blocks++ {
		for _, id := range ids() {
			s := super.Super{Blocks: blocks, ID: id}
			checkDecode(t, "of the model", lineOf(uint64(blocks), id), s, api.OK)
			checkDecode(t, "of Encode", s.Encode(), s, api.OK)
		}
	}
}

// TestDecodeMagic: P5.1, of Decode: another first word is ErrMagic, whatever else is wrong.
func TestDecodeMagic(t *testing.T) {
	for bit := range 64 {
		l := lineOf(2, 7)
		l[0] ^= 1 << bit
		checkRefused(t, "a sum that is wrong", l, api.ErrMagic)
		checkRefused(t, "a sum that is right", summed(l), api.ErrMagic)
	}
	checkRefused(t, "noughts", line{}, api.ErrMagic)
	checkRefused(t, "noughts with their sum", summed(line{}), api.ErrMagic)
	for _, first := range []uint64{0, 1, magic - 1, magic + 1, 0x31746170726f6f74, math.MaxUint64} {
		checkRefused(t, "another version", summed(line{first, 2, 2, 7}), api.ErrMagic)
		checkRefused(t, "Blocks that aren't right", summed(line{first, 1, 1, 7}), api.ErrMagic)
		checkRefused(t, "no nought", summed(line{first, 1, 2, 7, 0, 9}), api.ErrMagic)
		checkRefused(t, "all of it", line{first, 2, 257, 7, 1, 1, 1, 1}, api.ErrMagic)
	}
}

// TestDecodeSum: P5.1, of Decode: any bit that is turned behind the first word is ErrSum, whatever else is wrong.
func TestDecodeSum(t *testing.T) {
	for _, right := range []line{lineOf(2, 7), lineOf(3, 0), lineOf(256, math.MaxUint64)} {
		for word := 1; word < 8; word++ {
			for bit := range 64 {
				l := right
				l[word] ^= 1 << bit
				checkRefused(t, "a bit that is turned", l, api.ErrSum)
			}
		}
	}
	for _, l := range []line{{magic, 2, 2, 7}, {magic, 1, 0, 7}, {magic, 1, 257, 7}, {magic, 1, 1 << 63, 7}, {magic, 1, 2, 7, 1}, {magic, 0, 1, 7, 1, 1, 1}} {
		checkRefused(t, "no sum", l, api.ErrSum)
		for _, add := range []uint64{1, math.MaxUint64, 1 << 32, 1 << 63} {
			other := summed(l)
			other[7] += add
			checkRefused(t, "another sum", other, api.ErrSum)
		}
	}
	whole := lineOf(2, 7)
	whole[7] = uint64(crc32.ChecksumIEEE(make([]byte, 56)))
	checkRefused(t, "the sum of noughts", whole, api.ErrSum)
}

// TestDecodeRange: P5.1, of Decode: of a sum that is right, all that isn't the Encode of a Super with right Blocks is ErrRange.
func TestDecodeRange(t *testing.T) {
	for _, version := range []uint64{0, 2, 3, 255, 257, 1<<32 + 1, 1<<63 + 1, math.MaxUint64} {
		checkRefused(t, "another version", summed(line{magic, version, 2, 7}), api.ErrRange)
	}
	for _, blocks := range farBlocks() {
		checkRefused(t, "Blocks that aren't right", lineOf(uint64(blocks), 7), api.ErrRange)
		checkRefused(t, "the Encode of such a Super", super.Super{Blocks: blocks, ID: 7}.Encode(), api.ErrRange)
	}
	for _, blocks := range []uint64{1 << 63, 1<<63 + 1, 1<<63 + 2, 1<<63 + 256, 1<<64 - 256, 1<<64 - 2, 1<<64 - 1} {
		checkRefused(t, "a number of blocks past the greatest int", lineOf(blocks, 7), api.ErrRange)
	}
	for bit := 9; bit < 64; bit++ {
		checkRefused(t, "2 blocks and great ones", lineOf(1<<bit+2, 7), api.ErrRange)
	}
	for word := 4; word < 7; word++ {
		for bit := range 64 {
			l := line{magic, 1, 2, 7}
			l[word] = 1 << bit
			checkRefused(t, "a word that isn't nought", summed(l), api.ErrRange)
		}
	}
	checkRefused(t, "all of it", summed(line{magic, 2, 1, 7, 1, 2, 3}), api.ErrRange)
}

// TestDecodeOfMany: P5.1, of Decode, against the model: lines with some words changed, with the sum of them or without.
func TestDecodeOfMany(t *testing.T) {
	some := []uint64{0, 1, 2, 3, 255, 256, 257, 1 << 32, 1 << 63, magic, magic + 1, math.MaxUint64}
	seed := uint64(1)
	next := func(n int) int {
		seed = seed*6364136223846793005 + 1442695040888963407
		return int(seed>>33) % n
	}
	for range 200000 {
		l := lineOf(uint64(next(260)), some[next(len(some))])
		for range next(3) {
			l[next(8)] = some[next(len(some))]
		}
		if next(4) > 0 {
			l = summed(l)
		}
		want, wantErr := modelDecode(l)
		checkDecode(t, "some line", l, want, wantErr)
	}
}

// TestLine: P5.2, of Line: the first eight words as they are now, not as they last.
func TestLine(t *testing.T) {
	list := make([]uint64, 1024)
	for i := range list {
		list[i] = uint64(i) + 100
	}
	d := nvm.Load(list...)
	checkLine(t, "as loaded", super.Line(d), line{100, 101, 102, 103, 104, 105, 106, 107})
	d.Store(3, 5)
	d.Store(7, 6)
	d.Store(8, 9)
	before := shotOf(d)
	checkLine(t, "as stored", super.Line(d), line{100, 101, 102, 5, 104, 105, 106, 6})
	checkSame(t, "Line", d, before)
	checkLine(t, "behind a crash", super.Line(d.Crash()), line{100, 101, 102, 103, 104, 105, 106, 107})
	checkLine(t, "behind a crash that keeps all", super.Line(d.Crash(nvm.Kept)), line{100, 101, 102, 5, 104, 105, 106, 6})
	d.Arm(0)
	d.Fence()
	checkLine(t, "of one that has stopped", super.Line(d), line{100, 101, 102, 5, 104, 105, 106, 6})
}

// TestLineOfFew: P5.2, of Line: where there are no words, noughts.
func TestLineOfFew(t *testing.T) {
	checkLine(t, "no words", super.Line(nvm.New(0)), line{})
	checkLine(t, "no words", super.Line(nvm.Load()), line{})
	checkLine(t, "two words", super.Line(nvm.Load(4, 5)), line{4, 5})
	checkLine(t, "a line", super.Line(nvm.Load(1, 2, 3, 4, 5, 6, 7, 8)), line{1, 2, 3, 4, 5, 6, 7, 8})
	checkLine(t, "noughts", super.Line(nvm.New(1024)), line{})
}

// TestRead: P5.2, of Read: of all right numbers of blocks, on a device of as many.
func TestRead(t *testing.T) {
	for blocks := 2; blocks <= 256; blocks++ {
		id := uint64(blocks) * 0x123456789abcdef
		d := beginning(lineOf(uint64(blocks), id), 512*blocks)
		checkRead(t, "a right one", d, super.Super{Blocks: blocks, ID: id}, api.OK)
	}
	for _, id := range ids() {
		d := beginning(lineOf(2, id), 1024)
		before := shotOf(d)
		checkRead(t, "of 2 blocks", d, super.Super{Blocks: 2, ID: id}, api.OK)
		checkSame(t, "Read", d, before)
	}
}

// TestReadWords: P5.2, of Read: a device of other words than so many blocks have is ErrSuper. (A device has whole lines: of 1017 words asked for it has 1024.)
func TestReadWords(t *testing.T) {
	for _, words := range []int{0, 1, 4, 7, 8, 16, 504, 511, 512, 520, 1008, 1015, 1016, 1025, 1032, 1033, 1528, 1535, 1536, 1537, 2048, 131072} {
		d := nvm.New(words)
		for at, w := range lineOf(2, 7) {
			d.Store(at, w)
		}
		checkNoSuper(t, "other words than 2 blocks have", d)
	}
	for _, words := range []int{1017, 1023, 1024} {
		checkRead(t, "the words of 2 blocks", beginning(lineOf(2, 7), words), super.Super{Blocks: 2, ID: 7}, api.OK)
	}
	for _, blocks := range []int{1, 2, 3, 4, 255, 256, 257} {
		for _, told := range []int{0, 1, 2, 3, 4, 255, 256, 257} {
			d := beginning(lineOf(uint64(told), 7), 512*blocks)
			if told != blocks || told < 2 || told > 256 {
				checkNoSuper(t, "other blocks than are told, or none that are right", d)
			} else {
				checkRead(t, "as many blocks as are told", d, super.Super{Blocks: told, ID: 7}, api.OK)
			}
		}
	}
	checkNoSuper(t, "no words, and no blocks are told", beginning(lineOf(0, 7), 8))
	checkNoSuper(t, "no words at all", nvm.New(0))
}

// TestReadWrong: P5.2, of Read: each error of Decode is ErrSuper.
func TestReadWrong(t *testing.T) {
	rows := []line{
		{}, summed(line{}), summed(line{magic + 1, 1, 2, 7}), summed(line{0, 1, 2, 7}),
		{magic, 1, 2, 7}, {magic, 1, 2, 7, 0, 0, 0, lineOf(2, 7)[7] + 1}, {magic, 1, 2, 7, 0, 0, 0, lineOf(2, 7)[7] + 1<<32},
		summed(line{magic, 0, 2, 7}), summed(line{magic, 2, 2, 7}), summed(line{magic, 1, 2, 7, 1}), summed(line{magic, 1, 2, 7, 0, 1}), summed(line{magic, 1, 2, 7, 0, 0, 1}),
		lineOf(0, 7), lineOf(1, 7), lineOf(257, 7), lineOf(1<<63+2, 7), lineOf(1<<55+2, 7), lineOf(math.MaxUint64, 7),
	}
	for _, l := range rows {
		d := beginning(l, 1024)
		before := shotOf(d)
		checkNoSuper(t, "a line that is wrong", d)
		checkSame(t, "Read", d, before)
	}
}

// TestReadNow: P5.2, of Read: the line as it is now tells, not as it lasts; a device that has stopped is read as well.
func TestReadNow(t *testing.T) {
	d := beginning(lineOf(2, 7), 1024)
	d.Store(7, 0)
	checkNoSuper(t, "a sum that was stored", d)
	checkRead(t, "behind a crash", d.Crash(), super.Super{Blocks: 2, ID: 7}, api.OK)
	for at, w := range lineOf(2, 8) {
		d.Store(at, w)
	}
	checkRead(t, "another one that was stored", d, super.Super{Blocks: 2, ID: 8}, api.OK)
	d.Arm(0)
	d.Fence()
	before := shotOf(d)
	checkRead(t, "of one that has stopped", d, super.Super{Blocks: 2, ID: 8}, api.OK)
	checkSame(t, "Read", d, before)
	checkRead(t, "behind a crash", d.Crash(), super.Super{Blocks: 2, ID: 7}, api.OK)
}

// TestWrite: P5.2, of Write, and P5.3: what was written is read, behind a crash that keeps nothing too; no other word is changed.
func TestWrite(t *testing.T) {
	for _, blocks := range []int{2, 3, 4, 255, 256} {
		for _, id := range ids() {
			d := beginning(line{1, 2, 3, 4, 5, 6, 7, 8}, 512*blocks)
			want := d.All()
			l := lineOf(uint64(blocks), id)
			copy(want, l[:])
			s := super.Super{Blocks: blocks, ID: id}
			check(t, "Write", super.Write(d, s), api.OK)
			checkLine(t, "Line", super.Line(d), l)
			checkRead(t, "what was written", d, s, api.OK)
			checkRead(t, "behind a crash", d.Crash(), s, api.OK)
			if !slices.Equal(d.All(), want) || len(d.Dirty()) != 0 {
				t.Errorf("Write of %v: other words last than its eight, or lines are dirty: %v", s, d.Dirty())
			}
			if d.Steps() != 10 || d.Dead() {
				t.Errorf("Write of %v: %d steps, want 10: eight stores, a flush, a fence", s, d.Steps())
			}
		}
	}
}

// TestWriteAll: P5.3, of each right number of blocks, on a device of noughts.
func TestWriteAll(t *testing.T) {
	for blocks := 2; blocks <= 256; blocks++ {
		d := nvm.New(512 * blocks)
		checkNoSuper(t, "noughts", d)
		s := super.Super{Blocks: blocks, ID: uint64(blocks)}
		check(t, "Write", super.Write(d, s), api.OK)
		checkRead(t, "what was written", d, s, api.OK)
		checkRead(t, "behind a crash", d.Crash(), s, api.OK)
	}
}

// TestWriteAgain: P5.3: the last one that was written is read; and one writes over whatever stood there.
func TestWriteAgain(t *testing.T) {
	d := nvm.New(1024)
	for _, id := range []uint64{7, 7, 0, math.MaxUint64, 8} {
		s := super.Super{Blocks: 2, ID: id}
		check(t, "Write", super.Write(d, s), api.OK)
		checkRead(t, "what was written", d, s, api.OK)
		checkRead(t, "behind a crash", d.Crash(), s, api.OK)
		d.Store(0, id)
		checkNoSuper(t, "a first word that was stored", d)
		checkRead(t, "behind a crash", d.Crash(), s, api.OK)
	}
}

// TestWriteBeside: P5.2, of Write: other lines than its own aren't flushed; what is pending lasts by its fence.
func TestWriteBeside(t *testing.T) {
	d := nvm.New(1024)
	d.Store(8, 1)
	d.Store(16, 2)
	d.Flush(2)
	d.Store(1023, 3)
	check(t, "Write", super.Write(d, super.Super{Blocks: 2, ID: 7}), api.OK)
	if got := d.Dirty(); !slices.Equal(got, []int{1, 127}) {
		t.Errorf("Dirty: %v, want [1 127]", got)
	}
	if d.Lasting(8) != 0 || d.Lasting(16) != 2 || d.Lasting(1023) != 0 || d.Steps() != 14 {
		t.Errorf("lasting: %d, %d, %d, behind %d steps, want 0, 2, 0, behind 14", d.Lasting(8), d.Lasting(16), d.Lasting(1023), d.Steps())
	}
}

// TestWriteRange: P5.2, of Write, and P2: Blocks that aren't right, or other words: ErrRange, nothing is stored, and no step is done.
func TestWriteRange(t *testing.T) {
	refused := func(blocks, words int) {
		t.Helper()
		d := beginning(lineOf(2, 7), words)
		d.Store(3, 9)
		before := shotOf(d)
		check(t, "Write", super.Write(d, super.Super{Blocks: blocks, ID: 8}), api.ErrRange)
		checkSame(t, "Write", d, before)
		d.Arm(0)
		check(t, "Write on a device that would stop", super.Write(d, super.Super{Blocks: blocks, ID: 8}), api.ErrRange)
		checkSame(t, "Write on a device that would stop", d, before)
	}
	for _, blocks := range farBlocks() {
		for _, words := range []int{0, 8, 512, 1024} {
			refused(blocks, words)
		}
	}
	// So many words each of them has, or seems to have, when its number wraps round.
	refused(0, 0)
	refused(1, 512)
	refused(257, 257*512)
	refused(512, 512*512)
	for _, words := range []int{0, 4, 8, 512, 1016, 1025, 1032, 1536, 2048} {
		refused(2, words)
	}
	for _, words := range []int{1024, 1528, 1537, 1544, 2048} {
		refused(3, words)
	}
	for _, words := range []int{1024, 131064, 131073, 131584} {
		refused(256, words)
	}
}

// TestWriteStopped: P5.2, of Write: on a device that has stopped, ErrDead; but ErrRange comes first.
func TestWriteStopped(t *testing.T) {
	d := beginning(lineOf(2, 7), 1024)
	d.Arm(0)
	d.Fence()
	before := shotOf(d)
	check(t, "Write", super.Write(d, super.Super{Blocks: 2, ID: 8}), api.ErrDead)
	checkSame(t, "Write", d, before)
	for _, blocks := range []int{0, 1, 3, 257, math.MaxInt} {
		check(t, "Write of other blocks", super.Write(d, super.Super{Blocks: blocks, ID: 8}), api.ErrRange)
	}
	checkSame(t, "Write", d, before)
	checkRead(t, "what was written before", d, super.Super{Blocks: 2, ID: 7}, api.OK)
}

// TestWriteStops: P5.2, of Write: a device that stops at one of its steps: ErrDead, and what was done till then is so: words are stored one by one, rising, flushed, and fenced.
func TestWriteStops(t *testing.T) {
	old, written := lineOf(2, 7), lineOf(2, math.MaxUint64)
	old[4], old[5], old[6] = 1, 2, 3
	for stop := range 10 {
		d := beginning(old, 1024)
		want := beginning(old, 1024)
		for at := range min(stop, 8) {
			want.Store(at, written[at])
		}
		if stop == 9 {
			want.Flush(0)
		}
		d.Arm(stop)
		want.Arm(0)
		want.Fence()
		check(t, "Write", super.Write(d, super.Super{Blocks: 2, ID: math.MaxUint64}), api.ErrDead)
		checkSame(t, "Write that is stopped", d, shotOf(want))
	}
	d := beginning(old, 1024)
	d.Arm(10)
	check(t, "Write", super.Write(d, super.Super{Blocks: 2, ID: math.MaxUint64}), api.OK)
	check(t, "the step behind it", d.Fence(), api.ErrDead)
	checkRead(t, "behind a crash", d.Crash(), super.Super{Blocks: 2, ID: math.MaxUint64}, api.OK)
}

// TestWriteCrashes: P5.3: wherever a Write stops, a crash that keeps whole lines leaves what stood there, what was stored till then, or what was to be written.
func TestWriteCrashes(t *testing.T) {
	was, will := super.Super{Blocks: 2, ID: 7}, super.Super{Blocks: 2, ID: 8}
	for stop := range 11 {
		d := nvm.New(1024)
		check(t, "Write", super.Write(d, was), api.OK)
		d.Arm(stop)
		err := super.Write(d, will)
		if (err == api.OK) != (stop == 10) {
			t.Errorf("Write that stops behind %d steps: error %d", stop, err)
		}
		between := lineOf(2, 7)
		next := lineOf(2, 8)
		copy(between[:], next[:min(stop, 8)])
		for _, choices := range fates() {
			want, wantErr := was, api.OK
			kept := len(choices) > 0 && (choices[0] == nvm.Kept || choices[0] == nvm.Flushed && stop == 9)
			if stop == 10 {
				want = will
			} else if kept {
				want, wantErr = modelRead(between, 1024)
			}
			checkRead(t, "behind a crash", d.Crash(choices...), want, wantErr)
		}
	}
}

// TestLasts: P5.3: whatever is done to other words, and whatever a crash keeps of them, what was written is read.
func TestLasts(t *testing.T) {
	for _, blocks := range []int{2, 3, 256} {
		s := super.Super{Blocks: blocks, ID: 0xfedcba9876543210}
		d := nvm.New(512 * blocks)
		check(t, "Write", super.Write(d, s), api.OK)
		d.Store(8, 1)
		d.Store(64, 2)
		d.Flush(8)
		d.Store(65, 3)
		d.Store(d.Len()-1, 4)
		for _, choices := range fates() {
			e := d.Crash(choices...)
			checkRead(t, "behind a crash", e, s, api.OK)
			e.Store(9, 5)
			checkRead(t, "behind two crashes", e.Crash(choices...), s, api.OK)
		}
		// A line that was stored to and not flushed may be lost or kept: the old one is there just if it was lost.
		d.Store(3, 1)
		checkLine(t, "as it lasts", firstLasting(d), lineOf(uint64(blocks), s.ID))
		checkRead(t, "behind a crash that keeps nothing", d.Crash(), s, api.OK)
		checkNoSuper(t, "behind a crash that keeps the line", d.Crash(nvm.Kept))
	}
}

// TestWalk: P5.2 and P5.3, against the model: stores, writes, stops and crashes in all orders.
func TestWalk(t *testing.T) {
	seed := uint64(5)
	next := func(n int) int {
		seed = seed*6364136223846793005 + 1442695040888963407
		return int(seed>>33) % n
	}
	const words = 1536
	d := nvm.New(words)
	var now, lasts line
	for range 20000 {
		blocks, id := next(5), uint64(next(1000))
		switch next(6) {
		case 0:
			at := next(8)
			d.Store(at, id)
			now[at] = id
		case 1:
			d.Persist(0, 1)
			lasts = now
		case 2:
			d = d.Crash()
			now = lasts
		case 3:
			d = d.Crash(nvm.Kept)
			lasts = now
		default:
			err := super.Write(d, super.Super{Blocks: blocks, ID: id})
			if blocks != 3 {
				check(t, "Write", err, api.ErrRange)
				break
			}
			check(t, "Write", err, api.OK)
			now, lasts = lineOf(3, id), lineOf(3, id)
		}
		want, wantErr := modelRead(now, words)
		checkRead(t, "a walk", d, want, wantErr)
		checkLine(t, "Line", super.Line(d), now)
		checkLine(t, "what lasts", firstLasting(d), lasts)
	}
}

// TestLeft: P2: what is handed in stays as it was, what is answered is new, and it hangs on the arguments and on the device alone.
func TestLeft(t *testing.T) {
	s := super.Super{Blocks: 2, ID: 7}
	d, other := beginning(lineOf(2, 7), 1024), nvm.New(1536)
	for range 3 {
		l := s.Encode()
		checkLine(t, "Encode", l, lineOf(2, 7))
		checkDecode(t, "as before", l, s, api.OK)
		checkLine(t, "a line that was decoded", l, lineOf(2, 7))
		first := super.Line(d)
		first[2] = 3
		checkLine(t, "Line", super.Line(d), lineOf(2, 7))
		checkRead(t, "as before", d, s, api.OK)
		checkNoSuper(t, "as before", other)
		check(t, "Write", super.Write(other, s), api.ErrRange)
		check(t, "Write", super.Write(d, super.Super{Blocks: 3, ID: 9}), api.ErrRange)
		checkRefused(t, "as before", line{}, api.ErrMagic)
		if s != (super.Super{Blocks: 2, ID: 7}) {
			t.Errorf("a Super that was asked: %v, want {2 7}", s)
		}
	}
	check(t, "Write", super.Write(other, super.Super{Blocks: 3, ID: 9}), api.OK)
	checkRead(t, "the other device", d, s, api.OK)
	checkRead(t, "this device", other, super.Super{Blocks: 3, ID: 9}, api.OK)
}

// TestAllEnd: P1: no call panics, at the farthest arguments together, whatever words a device has.
func TestAllEnd(t *testing.T) {
	blocks := append(farBlocks(), 2, 3, 255, 256)
	devices := []*nvm.Device{nvm.New(0), nvm.New(math.MinInt), nvm.New(1), nvm.New(8), nvm.New(512), nvm.New(1024), nvm.New(131072), nvm.New(131584)}
	stopped := nvm.New(1024)
	stopped.Arm(0)
	stopped.Fence()
	devices = append(devices, stopped)
	for _, n := range blocks {
		for _, id := range ids() {
			s := super.Super{Blocks: n, ID: id}
			super.Decode(s.Encode())
			for word := range 8 {
				l := s.Encode()
				l[word] = id
				super.Decode(l)
				super.Decode(summed(l))
			}
			for _, d := range devices {
				super.Line(d)
				super.Read(d)
				super.Write(d, s)
			}
		}
	}
}
