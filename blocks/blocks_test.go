package blocks_test

import (
	"encoding/binary"
	"hash/crc32"
	"math"
	"reflect"
	"slices"
	"testing"

	"taproot/api"
	"taproot/bhead"
	"taproot/blocks"
	"taproot/geom"
	"taproot/nvm"
)

// The models' words are summed by the library's CRC-32; their spans are counted on from each block behind one that isn't free.

const headers = 256 // where the word of block 0 would be

// header is a block's header, span is blocks one behind the other.
type (
	header = bhead.Header
	span   = blocks.Span
)

// small is the header of a block of small objects, large of a large object's first block, cont of a further one.
func small(k int) header { return header{Kind: 1, Class: k} }
func large(n int) header { return header{Kind: 2, Len: n} }
func cont(n int) header  { return header{Kind: 3, Len: n} }

// other is any header, right or not.
func other(kind, k, n int) header { return header{Kind: kind, Class: k, Len: n} }

// sealed is a word of that number, for the block.
func sealed(n uint32, block int) uint64 {
	data := binary.LittleEndian.AppendUint64(nil, uint64(n))
	data = binary.LittleEndian.AppendUint64(data, uint64(headers+block))
	return uint64(crc32.ChecksumIEEE(data))*(1<<32) + uint64(n)
}

// wordOf is the word of a block's right header.
func wordOf(block int, h header) uint64 {
	return sealed(uint32(h.Kind+4*h.Class+256*h.Len), block)
}

// of is where things lie on a device of so many blocks.
func of(many int) geom.Geometry {
	return geom.Geometry{Blocks: many}
}

// edges are numbers of blocks that are right: the fewest, the most, and some between them.
func edges() []int {
	return []int{2, 3, 4, 9, 255, 256}
}

// far are numbers that no block, no kind, and no number of blocks is.
func far() []int {
	return []int{
		math.MinInt, math.MinInt + 1, math.MinInt + 2, math.MinInt + 255, math.MinInt + 256, math.MinInt32 - 1, math.MinInt32, -65536, -512, -257, -256, -255, -8, -4, -3, -2, -1,
		1 << 20, math.MaxInt32, math.MaxInt32 + 1, 1 << 32, 1<<32 + 1, 1<<32 + 2, 1 << 62, math.MaxInt - 256, math.MaxInt - 255, math.MaxInt - 2, math.MaxInt - 1, math.MaxInt,
	}
}

// some are headers of each kind that are right, at the edges and between them.
func some() []header {
	return []header{
		{}, small(0), small(1), small(7), small(31),
		large(1), large(2), large(128), large(255), cont(1), cont(2), cont(128), cont(255),
	}
}

// wrongs are headers that aren't right.
func wrongs() []header {
	list := []header{
		other(0, 1, 0), other(0, 0, 1), small(32), small(-1), other(1, 0, 1), small(64), large(0), large(-1), large(256), other(2, 1, 1),
		cont(0), cont(-1), cont(256), other(3, 1, 1), other(4, 0, 0), other(4, 0, 1), other(-1, 0, 0), other(9, 9, 9),
	}
	for _, n := range far() {
		list = append(list, other(n, 0, 0), other(n, 0, 1), small(n), large(n), cont(n), other(0, n, n))
	}
	return list
}

// wrongWords are words that aren't a header's, of that block.
func wrongWords(block int) []uint64 {
	free := wordOf(block, header{})
	return []uint64{
		0, 1, math.MaxUint64, 1 << 63, 0x0123456789abcdef, free ^ 1, free ^ 1<<63, free >> 32, free&0xffffffff | 1<<32,
		wordOf(block-1, header{}), wordOf(block+1, header{}), wordOf(block-headers, header{}), wordOf(block^1, small(7)),
		sealed(4, block), sealed(2, block), sealed(3, block), sealed(0x81, block), sealed(0x10002, block), sealed(1<<24, block), sealed(math.MaxUint32, block),
	}
}

// repeated are so many headers, the same ones one after the other.
func repeated(many int, list ...header) []header {
	all := make([]header, many)
	for i := range all {
		all[i] = list[i%len(list)]
	}
	return all
}

// layouts are headers of all blocks of a device of so many, that of block 0 zero: of one kind, and of several.
func layouts(many int) [][]header {
	all := [][]header{
		repeated(many, header{}), repeated(many, small(7)), repeated(many, large(1)), repeated(many, cont(1)),
		repeated(many, some()...), repeated(many, header{}, small(0)), repeated(many, header{}, header{}, large(2)),
		repeated(many, small(0), header{}), repeated(many, small(31), header{}, header{}, header{}), repeated(many, bhead.Run(3)...),
	}
	if many > 2 {
		all = append(all, append(make([]header, 1), bhead.Run(many-1)...))
		edge := repeated(many, small(3))
		edge[1] = header{}
		edge[many-1] = header{}
		all = append(all, edge)
	}
	for _, list := range all {
		list[0] = header{}
	}
	return all
}

// next is a generator of numbers below n, always the same ones.
func next(seed uint64) func(n int) int {
	return func(n int) int {
		seed = seed*6364136223846793005 + 1442695040888963407
		return int(seed>>33) % n
	}
}

// deviceOf is a device that lasts with these headers, and with other words than noughts at all other places, that of block 0's word among them.
func deviceOf(list []header) *nvm.Device {
	words := make([]uint64, 512*len(list))
	for i := range words {
		words[i] = uint64(i)*0x9e3779b97f4a7c15 + 1
	}
	for block := 1; block < len(list); block++ {
		words[headers+block] = wordOf(block, list[block])
	}
	return nvm.Load(words...)
}

// modelSpans counts on from each free block behind one that isn't.
func modelSpans(list []header) []span {
	free := func(block int) bool { return block >= 1 && block < len(list) && list[block].Kind == 0 }
	var spans []span
	for start := range list {
		if !free(start) || free(start-1) {
			continue
		}
		end := start
		for free(end) {
			end++
		}
		spans = append(spans, span{start, end - start})
	}
	return spans
}

// modelPersist flushes each line of which one of these blocks' words is, and fences, till a step isn't done.
func modelPersist(d *nvm.Device, block, many int) {
	line := -1
	for at := headers + block; at < headers+block+many; at++ {
		if at/8 != line {
			line = at / 8
			d.Flush(line)
		}
	}
	d.Fence()
}

// linesOf is how many lines the words of these blocks are in.
func linesOf(block, many int) int {
	return (headers+block+many-1)/8 - (headers+block)/8 + 1
}

// shot is all that a device tells.
type shot struct {
	Len, Steps   int
	Dead         bool
	Now, Lasting []uint64
	Dirty        []int
	Flushed      []uint64 // what lasts behind a crash that keeps what is pending
}

func shotOf(d *nvm.Device) shot {
	s := shot{Len: d.Len(), Steps: d.Steps(), Dead: d.Dead(), Lasting: d.All()}
	for at := range d.Len() {
		s.Now = append(s.Now, d.Get(at))
	}
	s.Dirty = append(s.Dirty, d.Dirty()...)
	s.Flushed = d.Crash(slices.Repeat([]uint8{nvm.Flushed}, d.Lines())...).All()
	return s
}

// fates are choices for a crash, from nothing that is kept to all.
func fates() [][]uint8 {
	all := [][]uint8{nil, slices.Repeat([]uint8{nvm.Flushed}, 40), slices.Repeat([]uint8{nvm.Kept}, 40)}
	for first := range uint8(3) {
		for second := range uint8(3) {
			all = append(all, []uint8{first, second, nvm.Lost}, []uint8{first, second, nvm.Kept})
		}
	}
	return all
}

// check holds an error against the one that is asked for.
func check(t *testing.T, what string, got, want api.Errno) {
	t.Helper()
	if got != want {
		t.Errorf("%s: error %d, want %d", what, got, want)
	}
}

// checkSame tells what a call has changed that should have changed nothing.
func checkSame(t *testing.T, what string, d *nvm.Device, before shot) {
	t.Helper()
	if after := shotOf(d); !reflect.DeepEqual(after, before) {
		t.Errorf("%s: the device is another one than it should be", what)
	}
}

// checkTable holds all that a table tells against the headers that it should have.
func checkTable(t *testing.T, what string, table *blocks.Table, want []header) {
	t.Helper()
	if got := table.Len(); got != len(want) {
		t.Errorf("%s: Len %d, want %d", what, got, len(want))
	}
	if got := table.All(); !slices.Equal(got, want) {
		t.Errorf("%s: All %v, want %v", what, got, want)
	}
	counts := map[int]int{}
	for block, h := range want {
		if got := table.Get(block); got != h {
			t.Errorf("%s: Get(%d) %v, want %v", what, block, got, h)
		}
		if block > 0 {
			counts[h.Kind]++
		}
	}
	for _, block := range []int{-1, len(want), len(want) + 1} {
		if got := table.Get(block); got != (header{}) {
			t.Errorf("%s: Get(%d) %v, want the zero one", what, block, got)
		}
	}
	for kind := -1; kind <= 4; kind++ {
		if got := table.Count(kind); got != counts[kind] {
			t.Errorf("%s: Count(%d) %d, want %d", what, kind, got, counts[kind])
		}
	}
	if got := table.Spans(); !slices.Equal(got, modelSpans(want)) {
		t.Errorf("%s: Spans %v, want %v", what, got, modelSpans(want))
	}
}

// checkRead: Read and Open of a device tell these headers, and do no steps.
func checkRead(t *testing.T, what string, d *nvm.Device, want []header) {
	t.Helper()
	steps, dead := d.Steps(), d.Dead()
	list, block, err := blocks.Read(d, of(len(want)))
	if !slices.Equal(list, want) || block != 0 || err != api.OK {
		t.Errorf("%s: Read: %v, %d, error %d, want %v, 0, 0", what, list, block, err, want)
	}
	table, err := blocks.Open(d, of(len(want)))
	if table == nil || err != api.OK {
		t.Fatalf("%s: Open: %v, error %d", what, table, err)
	}
	checkTable(t, what, table, want)
	if d.Steps() != steps || d.Dead() != dead {
		t.Errorf("%s: steps were done", what)
	}
}

// checkNoRead: Read tells that block and ErrBlock, and Open ErrBlock; nothing else, and no steps are done.
func checkNoRead(t *testing.T, what string, d *nvm.Device, many, want int) {
	t.Helper()
	steps, dead := d.Steps(), d.Dead()
	list, block, err := blocks.Read(d, of(many))
	if len(list) != 0 || block != want || err != api.ErrBlock {
		t.Errorf("%s: Read: %v, %d, error %d, want none, %d, %d", what, list, block, err, want, api.ErrBlock)
	}
	if table, err := blocks.Open(d, of(many)); table != nil || err != api.ErrBlock {
		t.Errorf("%s: Open: %v, error %d, want none, %d", what, table, err, api.ErrBlock)
	}
	if d.Steps() != steps || d.Dead() != dead {
		t.Errorf("%s: steps were done", what)
	}
}

// opened is the table of a device that has as many blocks as its words tell.
func opened(t *testing.T, d *nvm.Device) *blocks.Table {
	t.Helper()
	table, err := blocks.Open(d, of(d.Len()/512))
	if err != api.OK || table == nil {
		t.Fatalf("Open: error %d", err)
	}
	return table
}

// checkSpans holds what Spans of a list answers against what is asked for; the list stays as it was.
func checkSpans(t *testing.T, list []header, want ...span) {
	t.Helper()
	before := slices.Clone(list[:cap(list)])
	if got := blocks.Spans(list); !slices.Equal(got, want) {
		t.Errorf("Spans(%v): %v, want %v", list, got, want)
	}
	if !slices.Equal(list[:cap(list)], before) {
		t.Errorf("Spans(%v): it has changed the list, %v ahead", list, before)
	}
}

// TestExample: the chapter's example.
func TestExample(t *testing.T) {
	d := nvm.New(2048)
	check(t, "Format", blocks.Format(d, of(4)), api.OK)
	table := opened(t, d)
	if got := table.Spans(); !slices.Equal(got, []span{{Start: 1, Len: 3}}) {
		t.Errorf("Spans: %v, want one of 1 and 3", got)
	}
}

// TestWords: P10.1 and P10.3, by words that are written out: Format and Put store them, Read tells their headers.
func TestWords(t *testing.T) {
	d := nvm.New(256 * 512)
	check(t, "Format", blocks.Format(d, of(256)), api.OK)
	checkWord := func(at int, want uint64) {
		t.Helper()
		if d.Get(at) != want || d.Lasting(at) != want {
			t.Errorf("word %d: %016x, lasting %016x, want %016x", at, d.Get(at), d.Lasting(at), want)
		}
	}
	checkWord(256, 0)
	checkWord(257, 0x8666407f00000000)
	checkWord(511, 0x6c87460700000000)
	checkWord(512, 0)
	table := opened(t, d)
	check(t, "Put", table.Put(2, small(7)), api.OK)
	check(t, "Put", table.Put(3, bhead.Run(3)...), api.OK)
	check(t, "Put", table.Put(255, small(31)), api.OK)
	checkWord(257, 0x8666407f00000000)
	checkWord(258, 0xe7843b5b0000001d)
	checkWord(259, 0x529e081800000302)
	checkWord(260, 0x5eb5210100000103)
	checkWord(261, 0x83624be600000203)
	checkWord(511, 0xbaabb7470000007d)
	check(t, "Put", table.Put(1, large(1)), api.OK)
	check(t, "Put", table.Put(255, header{}), api.OK)
	checkWord(257, 0xb83dbef400000102)
	checkWord(511, 0x6c87460700000000)
	want := make([]header, 256)
	copy(want[1:], []header{large(1), small(7), large(3), cont(1), cont(2)})
	checkRead(t, "written out", d, want)
	if got := table.Spans(); !slices.Equal(got, []span{{6, 250}}) {
		t.Errorf("Spans: %v, want one of 6 and 250", got)
	}
}

// TestRead: P10.1, of Read and Open, and P10.2: headers of all kinds, of devices of all numbers of blocks.
func TestRead(t *testing.T) {
	for many := 2; many <= 256; many++ {
		checkRead(t, "of all kinds", deviceOf(layouts(many)[4]), layouts(many)[4])
	}
	for _, many := range edges() {
		for _, list := range layouts(many) {
			d := deviceOf(list)
			before := shotOf(d)
			checkRead(t, "a layout", d, list)
			checkSame(t, "Read and Open", d, before)
		}
	}
}

// TestReadEach: P10.1, of Read: each kind of header at each block alone.
func TestReadEach(t *testing.T) {
	for _, many := range []int{2, 3, 255, 256} {
		list := make([]header, many)
		d := deviceOf(list)
		for block := 1; block < many; block++ {
			for _, h := range some() {
				list[block] = h
				d.Store(headers+block, wordOf(block, h))
				got, _, err := blocks.Read(d, of(many))
				if err != api.OK || !slices.Equal(got, list) {
					t.Errorf("%v at block %d of %d: %v, error %d", h, block, many, got, err)
				}
			}
			list[block] = header{}
			d.Store(headers+block, wordOf(block, header{}))
		}
	}
}

// TestReadNow: P10.1, of Read and Open: the words as they are now tell, not as they last; a device that has stopped is read as well.
func TestReadNow(t *testing.T) {
	was, is := repeated(4, header{}), []header{{}, {}, small(7), {}}
	d := deviceOf(was)
	d.Store(258, 5)
	checkNoRead(t, "a word that was stored", d, 4, 2)
	checkRead(t, "behind a crash", d.Crash(), was)
	d.Store(258, wordOf(2, is[2]))
	checkRead(t, "a header that was stored", d, is)
	d.Arm(0)
	d.Fence()
	before := shotOf(d)
	checkRead(t, "of one that has stopped", d, is)
	checkSame(t, "Read and Open", d, before)
	checkRead(t, "behind a crash", d.Crash(), was)
	checkRead(t, "behind a crash that keeps all", d.Crash(nvm.Kept), is)
	d = deviceOf(is)
	d.Arm(1)
	checkRead(t, "of one that will stop", d, is)
	check(t, "the step that is left", d.Fence(), api.OK)
	check(t, "the step behind it", d.Fence(), api.ErrDead)
}

// TestReadWrong: P10.1, of Read and Open: a word that is no header's, at each block alone.
func TestReadWrong(t *testing.T) {
	for _, many := range edges() {
		for _, list := range [][]header{make([]header, many), layouts(many)[4]} {
			d := deviceOf(list)
			for block := 1; block < many; block++ {
				for _, w := range wrongWords(block) {
					d.Store(headers+block, w)
					checkNoRead(t, "one word", d, many, block)
				}
				d.Store(headers+block, wordOf(block, list[block]))
			}
			checkRead(t, "all words right again", d, list)
		}
	}
}

// TestReadFirst: P10.1, of Read and Open: of several words that are no header's the first one is told.
func TestReadFirst(t *testing.T) {
	for _, many := range edges() {
		list := layouts(many)[4]
		d := deviceOf(list)
		for first := 1; first < many; first++ {
			for _, later := range []int{first + 1, (first + many) / 2, many - 1} {
				// The later one is stored first.
				for _, block := range []int{later, first} {
					if block < many {
						d.Store(headers+block, wrongWords(block)[first%20])
					}
				}
				checkNoRead(t, "two words", d, many, first)
				for _, block := range []int{later, first} {
					if block < many {
						d.Store(headers+block, wordOf(block, list[block]))
					}
				}
			}
		}
		checkRead(t, "all words right again", d, list)
		d = nvm.New(512 * many)
		checkNoRead(t, "noughts alone", d, many, 1)
		for block := 1; block < many; block++ {
			checkNoRead(t, "all from one on", d, many, block)
			d.Store(headers+block, wordOf(block, small(0)))
		}
		want := repeated(many, small(0))
		want[0] = header{}
		checkRead(t, "none any more", d, want)
	}
}

// TestBlock0: the header of block 0 counts as the zero one, whatever word stands where it would be; nothing is stored there.
func TestBlock0(t *testing.T) {
	words := []uint64{0, 1, math.MaxUint64, wordOf(0, header{}), wordOf(0, small(7)), wordOf(0, large(2)), wordOf(0, cont(1)), wordOf(1, header{}), sealed(4, 0)}
	for _, many := range edges() {
		for _, w := range words {
			list := layouts(many)[4]
			d := deviceOf(list)
			d.Store(256, w)
			d.Persist(256, 1)
			checkRead(t, "block 0", d, list)
			table := opened(t, d)
			if got := table.Get(0); got != (header{}) {
				t.Errorf("Get(0): %v, want the zero one", got)
			}
			check(t, "Put", table.Put(1, header{}), api.OK)
			list[1] = header{}
			checkTable(t, "block 0", table, list)
			checkRead(t, "block 0", d, list)
			check(t, "Format", blocks.Format(d, of(many)), api.OK)
			checkRead(t, "block 0", d, make([]header, many))
			if d.Get(256) != w || d.Lasting(256) != w {
				t.Errorf("word 256: %x, lasting %x, want %x", d.Get(256), d.Lasting(256), w)
			}
		}
	}
}

// TestReadBeside: P10.1: words that are no block's header don't tell.
func TestReadBeside(t *testing.T) {
	for _, many := range []int{2, 3, 255} {
		list := layouts(many)[4]
		d := deviceOf(list)
		for at := range d.Len() {
			if at <= headers || at >= headers+many {
				d.Store(at, 0)
			}
		}
		checkRead(t, "noughts beside", d, list)
		for at := range d.Len() {
			if at <= headers || at >= headers+many {
				d.Store(at, wordOf(at-headers, large(1)))
			}
		}
		checkRead(t, "headers beside", d, list)
	}
}

// TestFormat: P10.1, of Format: each block's header is the zero one, and lasts; no other word is changed.
func TestFormat(t *testing.T) {
	for many := 2; many <= 256; many++ {
		list := layouts(many)[many%10]
		d := deviceOf(list)
		want := d.All()
		for block := 1; block < many; block++ {
			want[headers+block] = wordOf(block, header{})
		}
		check(t, "Format", blocks.Format(d, of(many)), api.OK)
		checkRead(t, "behind Format", d, make([]header, many))
		checkRead(t, "behind a crash", d.Crash(), make([]header, many))
		if !slices.Equal(d.All(), want) || len(d.Dirty()) != 0 {
			t.Errorf("Format of %d blocks: other words last than its headers, or lines are dirty: %v", many, d.Dirty())
		}
		if steps := many - 1 + linesOf(1, many-1) + 1; d.Steps() != steps || d.Dead() {
			t.Errorf("Format of %d blocks: %d steps, want %d: stores, flushes, a fence", many, d.Steps(), steps)
		}
	}
}

// TestFormatWrong: P10.1, of Format: whatever words stood there, they are the zero headers'.
func TestFormatWrong(t *testing.T) {
	for _, many := range edges() {
		for _, fill := range []uint64{0, 1, math.MaxUint64} {
			d := nvm.Load(slices.Repeat([]uint64{fill}, 512*many)...)
			checkNoRead(t, "ahead of Format", d, many, 1)
			check(t, "Format", blocks.Format(d, of(many)), api.OK)
			checkRead(t, "behind Format", d.Crash(), make([]header, many))
			check(t, "Format again", blocks.Format(d, of(many)), api.OK)
			checkRead(t, "behind Format again", d.Crash(), make([]header, many))
			table := opened(t, d)
			if got := table.Spans(); !slices.Equal(got, []span{{1, many - 1}}) {
				t.Errorf("Spans: %v, want one of 1 and %d", got, many-1)
			}
		}
	}
}

// TestFormatBeside: P10.1, of Format: other lines than its own aren't flushed; what is pending lasts by its fence.
func TestFormatBeside(t *testing.T) {
	d := deviceOf(make([]header, 4))
	was := d.All()
	d.Store(248, 1)
	d.Store(264, 2)
	d.Store(0, 3)
	d.Flush(0)
	check(t, "Format", blocks.Format(d, of(4)), api.OK)
	if got := d.Dirty(); !slices.Equal(got, []int{31, 33}) {
		t.Errorf("Dirty: %v, want 31 and 33", got)
	}
	if d.Lasting(248) != was[248] || d.Lasting(264) != was[264] || d.Lasting(0) != 3 {
		t.Errorf("lasting: %x, %x, %x", d.Lasting(248), d.Lasting(264), d.Lasting(0))
	}
}

// TestFormatStops: P10.1, of Format: a device that stops at one of its steps: ErrDead, and what was done till then is so.
func TestFormatStops(t *testing.T) {
	for _, many := range []int{2, 3, 9, 20, 256} {
		list := layouts(many)[1]
		steps := many - 1 + linesOf(1, many-1) + 1
		for stop := range steps {
			if many == 256 && stop%32 != 0 && stop < 254 {
				continue
			}
			d, want := deviceOf(list), deviceOf(list)
			d.Arm(stop)
			want.Arm(stop)
			now := slices.Clone(list)
			for block := 1; block < many; block++ {
				if want.Store(headers+block, wordOf(block, header{})) == api.OK {
					now[block] = header{}
				}
			}
			modelPersist(want, 1, many-1)
			check(t, "Format", blocks.Format(d, of(many)), api.ErrDead)
			checkSame(t, "Format that is stopped", d, shotOf(want))
			checkRead(t, "what was stored", d, now)
			checkRead(t, "behind a crash", d.Crash(), list)
		}
		d := deviceOf(list)
		d.Arm(steps)
		check(t, "Format", blocks.Format(d, of(many)), api.OK)
		check(t, "the step behind it", d.Fence(), api.ErrDead)
		before := shotOf(d)
		check(t, "Format of one that has stopped", blocks.Format(d, of(many)), api.ErrDead)
		checkSame(t, "Format of one that has stopped", d, before)
	}
}

// TestPutOne: P10.3 and P10.4: each kind of header, put at each block alone: the table tells it, and so do Read and Open, behind a crash too.
func TestPutOne(t *testing.T) {
	for _, many := range edges() {
		list := make([]header, many)
		d := deviceOf(list)
		table := opened(t, d)
		for block := 1; block < many; block++ {
			for _, h := range append(some(), header{}, small(31)) {
				steps := d.Steps()
				check(t, "Put", table.Put(block, h), api.OK)
				list[block] = h
				if d.Steps() != steps+3 {
					t.Errorf("Put of one: %d steps, want 3: a store, a flush, a fence", d.Steps()-steps)
				}
				if table.Get(block) != h || d.Get(headers+block) != wordOf(block, h) || d.Lasting(headers+block) != wordOf(block, h) {
					t.Errorf("Put(%d, %v): Get %v, the word %x, lasting %x", block, h, table.Get(block), d.Get(headers+block), d.Lasting(headers+block))
				}
			}
			if many < 255 || block%50 == 1 || block > many-3 {
				checkTable(t, "behind Put", table, list)
				checkRead(t, "behind Put", d, list)
				checkRead(t, "behind a crash", d.Crash(), list)
			}
		}
	}
}

// TestPutMany: P10.3 and P10.4: headers from each block on, as many as there may be: each stored, one by one, and persisted together; no other word is changed.
func TestPutMany(t *testing.T) {
	const many = 20
	for block := 1; block < many; block++ {
		for count := 1; block+count <= many; count++ {
			list := layouts(many)[1]
			d := deviceOf(list)
			table := opened(t, d)
			want := d.All()
			put := repeated(count, some()...)
			check(t, "Put", table.Put(block, put...), api.OK)
			copy(list[block:], put)
			for i, h := range put {
				want[headers+block+i] = wordOf(block+i, h)
			}
			checkTable(t, "behind Put", table, list)
			checkRead(t, "behind Put", d, list)
			if !slices.Equal(d.All(), want) || len(d.Dirty()) != 0 {
				t.Errorf("Put of %d from block %d on: other words last than its headers, or lines are dirty: %v", count, block, d.Dirty())
			}
			if steps := count + linesOf(block, count) + 1; d.Steps() != steps {
				t.Errorf("Put of %d from block %d on: %d steps, want %d: stores, flushes, a fence", count, block, d.Steps(), steps)
			}
		}
	}
}

// TestPutAll: P10.3, P10.4 and P10.2: all blocks from 1 on at once, one layout after the other.
func TestPutAll(t *testing.T) {
	for _, many := range edges() {
		d := nvm.New(512 * many)
		check(t, "Format", blocks.Format(d, of(many)), api.OK)
		table := opened(t, d)
		for _, list := range layouts(many) {
			check(t, "Put", table.Put(1, list[1:]...), api.OK)
			checkTable(t, "behind Put", table, list)
			checkRead(t, "behind Put", d, list)
			checkRead(t, "behind a crash", d.Crash(), list)
		}
		check(t, "Put", table.Put(1, make([]header, many-1)...), api.OK)
		checkTable(t, "free again", table, make([]header, many))
	}
}

// TestPutNone: P10.3: an empty list is put, where one might be, and at Len: nothing is done, not even a step.
func TestPutNone(t *testing.T) {
	for _, many := range edges() {
		list := layouts(many)[4]
		d := deviceOf(list)
		table := opened(t, d)
		d.Store(300, 7)
		d.Store(0, 7)
		d.Flush(0)
		before := shotOf(d)
		for block := 1; block <= many; block++ {
			check(t, "Put of none", table.Put(block), api.OK)
			check(t, "Put of none", table.Put(block, []header{}...), api.OK)
		}
		checkSame(t, "Put of none", d, before)
		checkTable(t, "Put of none", table, list)
		d.Arm(0)
		check(t, "Put of none", table.Put(many), api.OK)
		checkSame(t, "Put of none on a device that would stop", d, before)
		d.Fence()
		check(t, "Put of none", table.Put(1), api.OK)
	}
}

// checkRefused: Put of that is ErrArg, and nothing is changed; on a device that would stop, and on one that has, too.
func checkRefused(t *testing.T, many, block int, put ...header) {
	t.Helper()
	list := layouts(many)[4]
	d := deviceOf(list)
	table := opened(t, d)
	d.Store(0, 7)
	before := shotOf(d)
	check(t, "Put", table.Put(block, put...), api.ErrArg)
	d.Arm(0)
	check(t, "Put", table.Put(block, put...), api.ErrArg)
	checkSame(t, "Put that is refused", d, before)
	d.Fence()
	check(t, "Put", table.Put(block, put...), api.ErrArg)
	checkTable(t, "Put that is refused", table, list)
	checkRead(t, "Put that is refused", d, list)
}

// TestPutBlock: P10.3 and P2: from no block on, or from one from which there aren't as many: ErrArg.
func TestPutBlock(t *testing.T) {
	for _, many := range []int{2, 3, 9} {
		for _, block := range append(far(), 0, many+1, many+2, 255, 256, 257, 512) {
			if block >= 1 && block <= many {
				continue
			}
			checkRefused(t, many, block)
			checkRefused(t, many, block, header{})
			checkRefused(t, many, block, small(7), header{})
			checkRefused(t, many, block, repeated(many, small(7))...)
		}
		for block := 1; block <= many; block++ {
			left := many - block
			for _, count := range []int{left + 1, left + 2, many, 256, 1000} {
				if count > left {
					checkRefused(t, many, block, repeated(count, small(7))...)
					checkRefused(t, many, block, make([]header, count)...)
				}
			}
		}
	}
	for _, many := range []int{255, 256} {
		for _, block := range []int{-1, 0, many + 1, math.MinInt, math.MaxInt} {
			checkRefused(t, many, block)
			checkRefused(t, many, block, small(0))
		}
		checkRefused(t, many, many, header{})
		checkRefused(t, many, many-1, header{}, header{})
		checkRefused(t, many, 1, make([]header, many)...)
		checkRefused(t, many, 0, make([]header, many)...)
	}
}

// TestPutWrong: P10.3 and P2: one header that isn't right, alone and among right ones: ErrArg, and nothing is stored.
func TestPutWrong(t *testing.T) {
	for _, h := range wrongs() {
		checkRefused(t, 3, 1, h)
		checkRefused(t, 3, 2, h)
		checkRefused(t, 3, 1, h, header{})
		checkRefused(t, 3, 1, small(7), h)
	}
	for count := 1; count <= 8; count++ {
		for wrong := range count {
			put := repeated(count, small(7), large(1), header{})
			put[wrong] = small(32)
			checkRefused(t, 9, 1, put...)
			checkRefused(t, 9, 9-count, put...)
			put[count-1] = other(9, 9, 9)
			checkRefused(t, 9, 1, put...)
		}
	}
	put := repeated(255, small(7))
	put[254] = large(0)
	checkRefused(t, 256, 1, put...)
	// Not right, and no block's.
	checkRefused(t, 3, 0, other(9, 9, 9))
	checkRefused(t, 3, 3, other(9, 9, 9))
	checkRefused(t, 3, 4, other(9, 9, 9))
}

// TestPutBeside: P10.3: other lines than its own aren't flushed; what is pending lasts by its fence.
func TestPutBeside(t *testing.T) {
	d := deviceOf(make([]header, 32))
	was := d.All()
	table := opened(t, d)
	d.Store(263, 1)
	d.Store(280, 2)
	d.Store(0, 3)
	d.Flush(0)
	check(t, "Put", table.Put(8, repeated(16, small(0))...), api.OK)
	if got := d.Dirty(); !slices.Equal(got, []int{32, 35}) {
		t.Errorf("Dirty: %v, want 32 and 35", got)
	}
	if d.Lasting(263) != was[263] || d.Lasting(280) != was[280] || d.Lasting(0) != 3 {
		t.Errorf("lasting: %x, %x, %x", d.Lasting(263), d.Lasting(280), d.Lasting(0))
	}
}

// stopPut puts headers on a device that stops behind so many steps; what is stored is so, and behind a crash that keeps nothing all is as it was.
func stopPut(t *testing.T, list []header, stop, block int, put ...header) {
	t.Helper()
	d, want := deviceOf(list), deviceOf(list)
	table := opened(t, d)
	d.Arm(stop)
	want.Arm(stop)
	now := slices.Clone(list)
	for i, h := range put {
		if want.Store(headers+block+i, wordOf(block+i, h)) == api.OK {
			now[block+i] = h
		}
	}
	modelPersist(want, block, len(put))
	check(t, "Put", table.Put(block, put...), api.ErrDead)
	checkSame(t, "Put that is stopped", d, shotOf(want))
	checkTable(t, "what was stored", table, now)
	checkRead(t, "what was stored", d, now)
	checkRead(t, "behind a crash", d.Crash(), list)
	checkRead(t, "behind a crash that keeps all", d.Crash(slices.Repeat([]uint8{nvm.Kept}, d.Lines())...), now)
	check(t, "Put on a device that has stopped", table.Put(block, make([]header, len(put))...), api.ErrDead)
	checkTable(t, "Put on a device that has stopped", table, now)
}

// TestPutStops: P10.3: a device that stops at one of its steps: ErrDead, and what was stored till then is so.
func TestPutStops(t *testing.T) {
	rows := []struct{ many, block, count int }{
		{2, 1, 1}, {3, 1, 1}, {3, 2, 1}, {3, 1, 2}, {9, 8, 1}, {9, 7, 2}, {20, 1, 19}, {20, 5, 9}, {30, 7, 18},
	}
	for _, r := range rows {
		steps := r.count + linesOf(r.block, r.count) + 1
		for stop := range steps {
			stopPut(t, layouts(r.many)[1], stop, r.block, repeated(r.count, large(5), header{}, small(31))...)
			stopPut(t, make([]header, r.many), stop, r.block, bhead.Run(r.count)...)
		}
		list := make([]header, r.many)
		d := deviceOf(list)
		table := opened(t, d)
		d.Arm(steps)
		check(t, "Put", table.Put(r.block, bhead.Run(r.count)...), api.OK)
		check(t, "the step behind it", d.Fence(), api.ErrDead)
		copy(list[r.block:], bhead.Run(r.count))
		checkRead(t, "behind a crash", d.Crash(), list)
	}
	// Of the most blocks, at steps of each kind.
	for _, stop := range []int{0, 1, 128, 254, 255, 256, 286, 287} {
		stopPut(t, layouts(256)[1], stop, 1, bhead.Run(255)...)
	}
}

// TestPutCrashes: P10.4: what Put told OK of lasts, wherever a later Put stops, and whatever a crash keeps of that.
func TestPutCrashes(t *testing.T) {
	for stop := range 30 {
		d := nvm.New(20 * 512)
		check(t, "Format", blocks.Format(d, of(20)), api.OK)
		table := opened(t, d)
		check(t, "Put", table.Put(2, bhead.Run(3)...), api.OK)
		check(t, "Put", table.Put(9, small(7)), api.OK)
		check(t, "Put", table.Put(19, small(31)), api.OK)
		d.Arm(stop)
		err := table.Put(10, bhead.Run(9)...)
		if (stop >= 12) != (err == api.OK) {
			t.Errorf("Put that stops behind %d steps: error %d", stop, err)
		}
		for _, choices := range fates() {
			list, _, readErr := blocks.Read(d.Crash(choices...), of(20))
			check(t, "Read behind a crash", readErr, api.OK)
			for block, h := range list {
				was, will := header{}, header{}
				switch {
				case block >= 2 && block < 5:
					was = bhead.Run(3)[block-2]
				case block == 9:
					was = small(7)
				case block == 19:
					was = small(31)
				case block >= 10:
					will = bhead.Run(9)[block-10]
				}
				if block < 10 || block == 19 {
					will = was
				}
				if h != will && (h != was || err == api.OK) {
					t.Errorf("behind %d steps and a crash (%v): block %d: %v, want %v or %v", stop, choices, block, h, was, will)
				}
			}
		}
	}
}

// TestGet: P10.2, of Get: the zero header of no block.
func TestGet(t *testing.T) {
	for _, many := range edges() {
		list := repeated(many, small(7))
		table := opened(t, deviceOf(list))
		for block := 1; block < many; block++ {
			if got := table.Get(block); got != (small(7)) {
				t.Errorf("Get(%d) of %d blocks: %v", block, many, got)
			}
		}
		for _, block := range append(far(), 0, many, many+1, 257, 512) {
			if got := table.Get(block); got != (header{}) {
				t.Errorf("Get(%d) of %d blocks: %v, want the zero one", block, many, got)
			}
		}
	}
}

// TestCount: P10.2, of Count: of each kind, block 0 aside; none of a kind that isn't.
func TestCount(t *testing.T) {
	table := opened(t, deviceOf([]header{{}, {}, small(7), large(3), cont(1), cont(2), small(0), {}, small(31), {}}))
	for kind, want := range []int{3, 3, 1, 2, 0, 0, 0, 0, 0} {
		if got := table.Count(kind); got != want {
			t.Errorf("Count(%d): %d, want %d", kind, got, want)
		}
	}
	for _, many := range edges() {
		table := opened(t, deviceOf(make([]header, many)))
		if got := table.Count(api.Free); got != many-1 {
			t.Errorf("Count of free ones, of %d blocks: %d, want %d", many, got, many-1)
		}
		for _, kind := range append(far(), 1, 2, 3, 4, 5, 6, 7, 255, 256) {
			if got := table.Count(kind); got != 0 {
				t.Errorf("Count(%d) of free blocks: %d, want 0", kind, got)
			}
		}
	}
}

// TestSpans: P10.2, of Spans of a list, by spans that are written out.
func TestSpans(t *testing.T) {
	free, used := header{}, small(7)
	checkSpans(t, nil)
	checkSpans(t, []header{})
	checkSpans(t, []header{free})
	checkSpans(t, []header{used})
	checkSpans(t, []header{free, used})
	checkSpans(t, []header{free, free}, span{1, 1})
	checkSpans(t, []header{used, free}, span{1, 1})
	checkSpans(t, []header{used, used, used})
	checkSpans(t, []header{free, free, free, free}, span{1, 3})
	checkSpans(t, []header{free, free, free, used}, span{1, 2})
	checkSpans(t, []header{free, used, free, free}, span{2, 2})
	checkSpans(t, []header{free, used, free, free, used}, span{2, 2})
	checkSpans(t, []header{free, free, used, free}, span{1, 1}, span{3, 1})
	checkSpans(t, []header{free, free, used, used, free, free, used, free, free, free}, span{1, 1}, span{4, 2}, span{7, 3})
	checkSpans(t, []header{free, large(2), cont(1), free, small(0), free}, span{3, 1}, span{5, 1})
	checkSpans(t, make([]header, 255), span{1, 254})
	checkSpans(t, make([]header, 256), span{1, 255})
	checkSpans(t, make([]header, 1000), span{1, 999})
	// Kinds that aren't, and headers that aren't right, aren't free.
	checkSpans(t, []header{free, other(4, 0, 0), free, other(-1, 0, 0), free, other(1, 99, 5), large(0), cont(-1), free}, span{2, 1}, span{4, 1}, span{8, 1})
	// What lies behind the list, in its spare room, isn't of it.
	checkSpans(t, make([]header, 9)[:4], span{1, 3})
}

// TestSpansOfAll: P10.2, of Spans, of a list and of a table: all ways in which the blocks of a device of 2 to 12 may be free.
func TestSpansOfAll(t *testing.T) {
	kinds := []header{small(7), large(1), cont(1)}
	for many := 2; many <= 12; many++ {
		d := deviceOf(make([]header, many))
		table := opened(t, d)
		for ways := range 1 << (many - 1) {
			list := make([]header, many)
			for block := 1; block < many; block++ {
				if ways>>(block-1)&1 == 1 {
					list[block] = kinds[(ways+block)%3]
				}
			}
			want := modelSpans(list)
			checkSpans(t, list, want...)
			check(t, "Put", table.Put(1, list[1:]...), api.OK)
			if got := table.Spans(); !slices.Equal(got, want) {
				t.Errorf("Spans of %v: %v, want %v", list, got, want)
			}
			list[0] = small(7)
			checkSpans(t, list, want...)
		}
	}
}

// TestWalk: P10.1 to P10.4, against the model: puts, stops, crashes, and what is opened behind them, in all orders.
func TestWalk(t *testing.T) {
	const many = 40
	number := next(10)
	list, lasts := make([]header, many), make([]header, many)
	d := deviceOf(list)
	table := opened(t, d)
	stopped := 0
	for range 4000 {
		block := number(many+3) - 1
		put := make([]header, number(6)*number(4))
		for i := range put {
			put[i] = some()[number(13)]
		}
		wrong := number(10) == 0 && len(put) > 0
		if wrong {
			put[number(len(put))] = wrongs()[number(len(wrongs()))]
		}
		stop := number(60)
		if stop < 30 {
			d.Arm(stop)
		}
		err := table.Put(block, put...)
		steps := len(put) + linesOf(block, len(put)) + 1
		switch {
		case block < 1 || block > many || block+len(put) > many || wrong:
			check(t, "Put", err, api.ErrArg)
		case len(put) == 0:
			check(t, "Put of none", err, api.OK)
		case stop < 30 && stop < steps:
			check(t, "Put that is stopped", err, api.ErrDead)
			copy(list[block:], put[:min(stop, len(put))])
			stopped++
		default:
			check(t, "Put", err, api.OK)
			copy(list[block:], put)
			copy(lasts[block:], put)
		}
		checkTable(t, "a walk", table, list)
		checkRead(t, "a walk", d, list)
		d.Arm(-1)
		if d.Dead() || number(8) == 0 {
			d = d.Crash()
			copy(list, lasts)
			table = opened(t, d)
			checkTable(t, "behind a crash", table, list)
		}
	}
	if stopped < 200 {
		t.Errorf("only %d puts were stopped: that is no test", stopped)
	}
}

// spoil writes over a list that was answered, with its spare room.
func spoil(list []header) {
	for i := range list[:cap(list)] {
		list[:cap(list)][i] = other(9, 9, 9)
	}
}

// TestLeft: P2: what is handed in stays as it was, and isn't kept; what is answered is new.
func TestLeft(t *testing.T) {
	want := []header{{}, small(7), large(2), cont(1), {}, {}}
	d := deviceOf(make([]header, 6))
	table, neighbour := opened(t, d), opened(t, deviceOf(want[:3]))
	put := []header{small(7), large(2), cont(1), other(4, 4, 4)}
	check(t, "Put", table.Put(1, put[:3]...), api.OK)
	if !slices.Equal(put, []header{small(7), large(2), cont(1), other(4, 4, 4)}) {
		t.Errorf("what was put: %v", put)
	}
	spoil(put)
	for range 3 {
		checkTable(t, "as before", table, want)
		checkTable(t, "as before", neighbour, want[:3])
		checkRead(t, "as before", d, want)
		all, second := table.All(), table.All()
		spoil(all)
		if !slices.Equal(second, want) {
			t.Errorf("All, answered ahead: %v", second)
		}
		read, _, _ := blocks.Read(d, of(6))
		third, _, _ := blocks.Read(d, of(6))
		spoil(read)
		if !slices.Equal(third, want) {
			t.Errorf("Read, answered ahead: %v", third)
		}
		spans, fourth := table.Spans(), table.Spans()
		for i := range spans[:cap(spans)] {
			spans[:cap(spans)][i] = span{9, 9}
		}
		if !slices.Equal(fourth, []span{{4, 2}}) {
			t.Errorf("Spans, answered ahead: %v", fourth)
		}
		check(t, "Put", table.Put(5, header{}, header{}), api.ErrArg)
		check(t, "Put", neighbour.Put(3, header{}), api.ErrArg)
		checkNoRead(t, "a device of noughts", nvm.New(3072), 6, 1)
	}
	// A table that was opened ahead, of another device, is as it was.
	check(t, "Put", neighbour.Put(1, header{}), api.OK)
	checkTable(t, "this table", table, want)
	checkTable(t, "the other table", neighbour, []header{{}, {}, large(2)})
}

// ends makes all calls with a device and a geometry.
func ends(d *nvm.Device, g geom.Geometry) {
	blocks.Read(d, g)
	table, err := blocks.Open(d, g)
	blocks.Format(d, g)
	blocks.Read(d, g)
	if err != api.OK {
		table, err = blocks.Open(d, g)
	}
	if err != api.OK {
		return
	}
	table.All()
	table.Spans()
	for _, n := range append(far(), 0, 1, 2, 3, 255, 256, 257, table.Len()-1, table.Len(), table.Len()+1) {
		table.Get(n)
		table.Count(n)
		table.Put(n)
		table.Put(n, small(7))
		table.Put(n, other(n, n, n), header{})
	}
	blocks.Format(d, g)
}

// TestAllEnd: P1: no call panics, and each ends: of geometries that aren't right, on devices of other words, whatever these are.
func TestAllEnd(t *testing.T) {
	numbers := append(far(), 0, 1, 2, 3, 4, 31, 32, 254, 255, 256, 257, 258, 511, 512, 768, 769, 1024, 1<<20+1)
	for _, many := range numbers {
		for _, words := range []int{math.MinInt, 0, 1, 8, 256, 264, 512, 1024, 2048, 10000} {
			ends(nvm.New(words), of(many))
		}
		for _, fill := range []uint64{1, math.MaxUint64} {
			ends(nvm.Load(slices.Repeat([]uint64{fill}, 2048)...), of(many))
		}
		for _, list := range layouts(9) {
			ends(deviceOf(list), of(many))
		}
		stopped := deviceOf(make([]header, 4))
		stopped.Arm(0)
		stopped.Fence()
		ends(stopped, of(many))
	}
	for _, many := range []int{math.MinInt, 2, 255, 256, 257, math.MaxInt} {
		ends(nvm.New(131072), of(many))
		ends(nvm.New(131584), of(many))
	}
	// Each word is a header's, as far as the device goes.
	words := make([]uint64, 4096)
	for at := range words {
		words[at] = wordOf(at-headers, small(7))
	}
	for _, many := range numbers {
		ends(nvm.Load(words...), of(many))
	}
}
