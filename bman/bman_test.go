package bman_test

import (
	"encoding/binary"
	"fmt"
	"hash/crc32"
	"math"
	"reflect"
	"slices"
	"testing"

	"taproot/api"
	"taproot/bhead"
	"taproot/blocks"
	"taproot/bman"
	"taproot/geom"
	"taproot/nvm"
)

// The model has a header for each block, and a truth: may it be taken? It counts on from each block, and knows nothing of runs. Its words are summed by the library's CRC-32.

const headers = 256 // where the word of block 0 would be

// header is a block's header, span is blocks one behind the other.
type (
	header = bhead.Header
	span   = blocks.Span
)

// small is the header of a block of small objects, large of a large object's first block, cont of a further one.
func small(k int) header { return header{Kind: 1, Class: k} }
func large(n int) header { return header{Kind: 2, Len: n} }
func cont(n int) header  { return header{Kind: 3, Len: n} }

// other is any header, right or not.
func other(kind, k, n int) header { return header{Kind: kind, Class: k, Len: n} }

// whole is the headers of a large object's blocks, so many.
func whole(n int) []header {
	list := []header{large(n)}
	for i := 1; i < n; i++ {
		list = append(list, cont(i))
	}
	return list
}

// free is so many headers of free blocks.
func free(n int) []header { return make([]header, n) }

// row is headers one behind the other: that of block 0, zero, and these.
func row(parts ...[]header) []header {
	return slices.Concat(append([][]header{{{}}}, parts...)...)
}

// one is a list of one header.
func one(h header) []header { return []header{h} }

// runOf is so many blocks from one on.
func runOf(start, n int) span { return span{Start: start, Len: n} }

// of is where things lie on a device of so many blocks.
func of(many int) geom.Geometry {
	return geom.Geometry{Blocks: many}
}

// sealed is a word of that number, for the block.
func sealed(n uint32, block int) uint64 {
	data := binary.LittleEndian.AppendUint64(nil, uint64(n))
	data = binary.LittleEndian.AppendUint64(data, uint64(headers+block))
	return uint64(crc32.ChecksumIEEE(data))*(1<<32) + uint64(n)
}

// wordOf is the word of a block's right header.
func wordOf(block int, h header) uint64 {
	return sealed(uint32(h.Kind+4*h.Class+256*h.Len), block)
}

// deviceOf is a device that lasts with these headers, and with other words than noughts at all other places, that of block 0's word among them.
func deviceOf(list []header) *nvm.Device {
	words := make([]uint64, 512*len(list))
	for i := range words {
		words[i] = uint64(i)*0x9e3779b97f4a7c15 + 1
	}
	for block := 1; block < len(list); block++ {
		words[headers+block] = wordOf(block, list[block])
	}
	return nvm.Load(words...)
}

// far are numbers that no block, no class, and no number of blocks is.
func far() []int {
	return []int{
		math.MinInt, math.MinInt + 1, math.MinInt + 2, math.MinInt + 255, math.MinInt + 256, math.MinInt32 - 1, math.MinInt32, -65536, -512, -257, -256, -255, -32, -8, -4, -3, -2, -1,
		1 << 20, math.MaxInt32, math.MaxInt32 + 1, 1 << 32, 1<<32 + 1, 1<<32 + 2, 1 << 62, math.MaxInt - 256, math.MaxInt - 255, math.MaxInt - 2, math.MaxInt - 1, math.MaxInt,
	}
}

// next is a generator of numbers below n, always the same ones.
func next(seed uint64) func(n int) int {
	return func(n int) int {
		seed = seed*6364136223846793005 + 1442695040888963407
		return int(seed>>33) % n
	}
}

// edges are numbers of blocks that are right: the fewest, the most, and some between them.
func edges() []int {
	return []int{2, 3, 4, 9, 40, 255, 256}
}

// laid is headers of so many blocks: these parts again and again, and free ones where a whole part has no room.
func laid(many int, parts ...[]header) []header {
	list := row()
	for i := 0; len(list) < many; i++ {
		part := parts[i%len(parts)]
		if len(part) > many-len(list) {
			part = free(1)
		}
		list = append(list, part...)
	}
	return list
}

// layouts are sound headers of all blocks of a device of so many.
func layouts(many int) [][]header {
	return [][]header{
		laid(many, free(1)),
		laid(many, one(small(7))),
		laid(many, whole(1)),
		laid(many, whole(2)),
		laid(many, whole(many-1)),
		laid(many, one(small(0)), free(1), one(small(31)), free(2)),
		laid(many, free(3), whole(3)),
		laid(many, whole(5), free(1), one(small(3)), whole(1), free(4), whole(2)),
		laid(many, free(2), whole(17), one(small(12)), one(small(13)), free(7), whole(1), free(1), whole(4), free(2)),
	}
}

// model is what each block is, and whether it may be taken.
type model struct {
	list []header
	free []bool
}

// modelOf is blocks with these headers, that of block 0 aside.
func modelOf(list []header) *model {
	m := &model{list: slices.Clone(list), free: make([]bool, len(list))}
	m.list[0] = header{}
	for block := 1; block < len(list); block++ {
		m.free[block] = list[block] == header{}
	}
	return m
}

// is tells whether there is such a block that may be taken.
func (m *model) is(block int) bool {
	return block >= 0 && block < len(m.free) && m.free[block]
}

// behind is the first block from one on that may not be taken.
func (m *model) behind(block int) int {
	for m.is(block) {
		block++
	}
	return block
}

func (m *model) runs() []span {
	var list []span
	for block := range m.free {
		if m.is(block) && !m.is(block-1) {
			list = append(list, runOf(block, m.behind(block)-block))
		}
	}
	return list
}

func (m *model) total() int {
	many := 0
	for block := range m.free {
		if m.is(block) {
			many++
		}
	}
	return many
}

func (m *model) longest() int {
	many := 0
	for block := range m.free {
		many = max(many, m.behind(block)-block)
	}
	return many
}

// fit is the first block of the shortest run that has so many, of alike ones of the first; 0, if there is none.
func (m *model) fit(n int) int {
	for many := n; many < len(m.free); many++ {
		for block := range m.free {
			if m.is(block) && !m.is(block-1) && m.behind(block)-block == many {
				return block
			}
		}
	}
	return 0
}

// set lets blocks have these headers; they may be taken, or not.
func (m *model) set(block int, list []header, free bool) {
	for i, h := range list {
		m.list[block+i], m.free[block+i] = h, free
	}
}

// take lets as many blocks as there are headers have these.
func (m *model) take(list []header) (int, api.Errno) {
	block := m.fit(len(list))
	if block == 0 {
		return 0, api.ErrSpace
	}
	m.set(block, list, false)
	return block, api.OK
}

func (m *model) small(k int) (int, api.Errno) {
	if k < 0 || k > 31 {
		return 0, api.ErrArg
	}
	return m.take(one(small(k)))
}

func (m *model) large(n int) (int, api.Errno) {
	if n < 1 || n > 255 {
		return 0, api.ErrArg
	}
	return m.take(whole(n))
}

func (m *model) release(block int) api.Errno {
	n := m.extent(block)
	if n == 0 {
		return api.ErrMissing
	}
	m.set(block, free(n), true)
	return api.OK
}

// extent is how many blocks go with one of small objects, or a large object's first one; 0 of another one.
func (m *model) extent(block int) int {
	if block < 1 || block >= len(m.list) {
		return 0
	}
	switch h := m.list[block]; h.Kind {
	case 1:
		return 1
	case 2:
		return h.Len
	}
	return 0
}

// sound marks the further blocks of each whole large object; then it looks for the first block that is of none.
func sound(list []header) (int, bool) {
	right := make([]bool, len(list))
	for block, h := range list {
		if h.Kind != 2 || block == 0 || h.Len < 1 || h.Len > len(list) || block+h.Len > len(list) || !slices.Equal(list[block+1:block+h.Len], whole(h.Len)[1:]) {
			continue
		}
		for i := range h.Len {
			right[block+i] = true
		}
	}
	for block, h := range list {
		if block > 0 && (h.Kind == 2 || h.Kind == 3) && !right[block] {
			return block, false
		}
	}
	return 0, true
}

// put is headers that are stored together, from a block on.
type put struct {
	block int
	list  []header
}

// takePuts is what is stored, one put behind the other, to take blocks with these headers: the further ones first.
func takePuts(block int, list []header) []put {
	if len(list) == 1 {
		return []put{{block, list}}
	}
	return []put{{block + 1, list[1:]}, {block, list[:1]}}
}

// givePuts is what is stored to give so many blocks back: the first one first.
func givePuts(block, n int) []put {
	if n == 1 {
		return []put{{block, free(1)}}
	}
	return []put{{block, free(1)}, {block + 1, free(n - 1)}}
}

// linesOf is how many lines the words of these blocks are in.
func linesOf(block, many int) int {
	return (headers+block+many-1)/8 - (headers+block)/8 + 1
}

// stepsOf is how many steps puts have: stores, flushes, and a fence each.
func stepsOf(puts []put) int {
	steps := 0
	for _, p := range puts {
		steps += len(p.list) + linesOf(p.block, len(p.list)) + 1
	}
	return steps
}

// doPuts does the steps of puts, till one isn't done, and tells the model what is stored.
func (m *model) doPuts(d *nvm.Device, puts []put) {
	for _, p := range puts {
		for i, h := range p.list {
			at := p.block + i
			m.free[at] = false
			if d.Store(headers+at, wordOf(at, h)) == api.OK {
				m.list[at] = h
			}
		}
		for line := (headers + p.block) / 8; line <= (headers+p.block+len(p.list)-1)/8; line++ {
			d.Flush(line)
		}
		d.Fence()
	}
}

// shot is all that a device tells.
type shot struct {
	Len, Steps   int
	Dead         bool
	Now, Lasting []uint64
	Dirty        []int
	Flushed      []uint64 // what lasts behind a crash that keeps what is pending
}

func shotOf(d *nvm.Device) shot {
	s := shot{Len: d.Len(), Steps: d.Steps(), Dead: d.Dead(), Lasting: d.All()}
	for at := range d.Len() {
		s.Now = append(s.Now, d.Get(at))
	}
	s.Dirty = append(s.Dirty, d.Dirty()...)
	s.Flushed = d.Crash(slices.Repeat([]uint8{nvm.Flushed}, d.Lines())...).All()
	return s
}

// fates are choices for a crash, from nothing that is kept to all.
func fates() [][]uint8 {
	all := [][]uint8{nil, slices.Repeat([]uint8{nvm.Flushed}, 40), slices.Repeat([]uint8{nvm.Kept}, 40)}
	for first := range uint8(3) {
		for second := range uint8(3) {
			all = append(all, []uint8{first, second, nvm.Lost}, []uint8{first, second, nvm.Kept})
		}
	}
	return all
}

// check holds an error against the one that is asked for.
func check(t *testing.T, what string, got, want api.Errno) {
	t.Helper()
	if got != want {
		t.Errorf("%s: error %d, want %d", what, got, want)
	}
}

// checkTake holds what Small or Large answered against what is asked for.
func checkTake(t *testing.T, what string, block int, err api.Errno, want int, wantErr api.Errno) {
	t.Helper()
	if block != want || err != wantErr {
		t.Errorf("%s: %d, error %d, want %d, %d", what, block, err, want, wantErr)
	}
}

// checkSame tells what a call has changed that should have changed nothing.
func checkSame(t *testing.T, what string, d *nvm.Device, before shot) {
	t.Helper()
	if after := shotOf(d); !reflect.DeepEqual(after, before) {
		t.Errorf("%s: the device is another one than it should be", what)
	}
}

// checkRuns holds what a manager tells of the blocks that may be taken against the model.
func checkRuns(t *testing.T, what string, m *bman.Manager, want *model) {
	t.Helper()
	if got := m.FreeBlocks(); got != want.total() {
		t.Errorf("%s: FreeBlocks %d, want %d", what, got, want.total())
	}
	if got := m.Longest(); got != want.longest() {
		t.Errorf("%s: Longest %d, want %d", what, got, want.longest())
	}
	if got := m.Runs(); !slices.Equal(got, want.runs()) {
		t.Errorf("%s: Runs %v, want %v", what, got, want.runs())
	}
}

// checkManager holds all that a manager tells, by its table's calls too, against the model.
func checkManager(t *testing.T, what string, m *bman.Manager, want *model) {
	t.Helper()
	if m == nil {
		t.Fatalf("%s: no manager", what)
	}
	checkRuns(t, what, m, want)
	if got := m.Geometry(); got != of(len(want.list)) {
		t.Errorf("%s: Geometry %v, want %d blocks", what, got, len(want.list))
	}
	if got := m.Len(); got != len(want.list) {
		t.Errorf("%s: Len %d, want %d", what, got, len(want.list))
	}
	if got := m.All(); !slices.Equal(got, want.list) {
		t.Errorf("%s: All %v, want %v", what, got, want.list)
	}
	counts := make([]int, 5)
	for block, h := range want.list {
		if got := m.Get(block); got != h {
			t.Errorf("%s: Get(%d) %v, want %v", what, block, got, h)
		}
		if block > 0 {
			counts[h.Kind]++
		}
	}
	for kind, want := range counts {
		if got := m.Count(kind); got != want {
			t.Errorf("%s: Count(%d) %d, want %d", what, kind, got, want)
		}
	}
}

// checkOpen: Open tells these headers, and does no steps; its free runs are the free blocks.
func checkOpen(t *testing.T, what string, d *nvm.Device, list []header) *bman.Manager {
	t.Helper()
	steps, dead := d.Steps(), d.Dead()
	m, err := bman.Open(d, of(len(list)))
	if m == nil || err != api.OK {
		t.Fatalf("%s: Open: %v, error %d", what, m, err)
	}
	checkManager(t, what, m, modelOf(list))
	if d.Steps() != steps || d.Dead() != dead {
		t.Errorf("%s: Open has done steps", what)
	}
	return m
}

// checkNoOpen: Open answers that error, no manager beside it, and does no steps.
func checkNoOpen(t *testing.T, what string, d *nvm.Device, many int, want api.Errno) {
	t.Helper()
	steps, dead := d.Steps(), d.Dead()
	if m, err := bman.Open(d, of(many)); m != nil || err != want {
		t.Errorf("%s: Open: %v, error %d, want none, %d", what, m, err, want)
	}
	if d.Steps() != steps || d.Dead() != dead {
		t.Errorf("%s: Open has done steps", what)
	}
}

// checkAll: the manager, an Open of its device, and one of a device that crashed, whatever that keeps, tell what the model tells.
func checkAll(t *testing.T, what string, d *nvm.Device, m *bman.Manager, want *model) {
	t.Helper()
	checkManager(t, what, m, want)
	checkOpen(t, what+", opened again", d, want.list)
	checkOpen(t, what+", behind a crash", d.Crash(), want.list)
	checkOpen(t, what+", behind a crash that keeps all", d.Crash(slices.Repeat([]uint8{nvm.Kept}, 40)...), want.list)
}

// formatted is a manager of a device of so many blocks, all free, and its device.
func formatted(t *testing.T, many int) (*nvm.Device, *bman.Manager) {
	t.Helper()
	d := nvm.New(512 * many)
	check(t, "Format", blocks.Format(d, of(many)), api.OK)
	return d, checkOpen(t, "formatted", d, make([]header, many))
}

// TestExample: the chapter's example.
func TestExample(t *testing.T) {
	_, m := formatted(t, 5)
	block, err := m.Large(2)
	checkTake(t, "Large(2)", block, err, 1, api.OK)
	block, err = m.Small(0)
	checkTake(t, "Small(0)", block, err, 3, api.OK)
	checkManager(t, "the example", m, modelOf(row(whole(2), one(small(0)), free(1))))
}

// TestTypes: a manager embeds layer 10's table; that is the one whose calls it has.
func TestTypes(t *testing.T) {
	d := deviceOf(row(whole(2), free(1), one(small(7))))
	m := checkOpen(t, "a manager", d, row(whole(2), free(1), one(small(7))))
	var table *blocks.Table = m.Table
	_, err := m.Small(3)
	check(t, "Small", err, api.OK)
	if got := table.All(); !slices.Equal(got, row(whole(2), one(small(3)), one(small(7)))) || !slices.Equal(m.All(), got) {
		t.Errorf("All of the table: %v, of the manager: %v", got, m.All())
	}
	if got := m.Spans(); len(got) != 0 {
		t.Errorf("Spans: %v, want none", got)
	}
}

// TestWords: P12.2 and P12.3, by words that are written out.
func TestWords(t *testing.T) {
	d, m := formatted(t, 256)
	checkWords := func(want ...uint64) {
		t.Helper()
		for i, w := range want {
			if at := 257 + i; d.Get(at) != w || d.Lasting(at) != w {
				t.Errorf("word %d: %016x, lasting %016x, want %016x", at, d.Get(at), d.Lasting(at), w)
			}
		}
	}
	take := func(block int, err api.Errno) func(want int) {
		return func(want int) {
			t.Helper()
			checkTake(t, "taken", block, err, want, api.OK)
		}
	}
	take(m.Large(1))(1)
	take(m.Small(7))(2)
	take(m.Large(3))(3)
	checkWords(0xb83dbef400000102, 0xe7843b5b0000001d, 0x529e081800000302, 0x5eb5210100000103, 0x83624be600000203)
	take(m.Large(249))(6)
	take(m.Small(31))(255)
	if d.Lasting(511) != 0xbaabb7470000007d {
		t.Errorf("word 511: %016x", d.Lasting(511))
	}
	check(t, "Release", m.Release(255), api.OK)
	if d.Lasting(511) != 0x6c87460700000000 {
		t.Errorf("word 511: %016x", d.Lasting(511))
	}
	check(t, "Release", m.Release(1), api.OK)
	checkWords(0x8666407f00000000, 0xe7843b5b0000001d)
	check(t, "Release", m.Release(3), api.OK)
	list := row(free(1), one(small(7)), free(3), whole(249), free(1))
	checkAll(t, "written out", d, m, modelOf(list))
}

// checkSound holds what Sound answers against what is asked for; the list stays as it was.
func checkSound(t *testing.T, list []header, want int, ok bool) {
	t.Helper()
	before := slices.Clone(list[:cap(list)])
	if block, got := bman.Sound(list); block != want || got != ok {
		t.Errorf("Sound(%v): %d, %t, want %d, %t", list, block, got, want, ok)
	}
	if !slices.Equal(list[:cap(list)], before) {
		t.Errorf("Sound(%v) has changed the list, %v ahead", list, before)
	}
}

// TestSound: P12.1, of Sound, by headers that are written out.
func TestSound(t *testing.T) {
	for _, list := range [][]header{
		nil, {}, free(1), free(2), free(300), row(one(small(7))), row(one(small(0)), free(1), one(small(31))),
		row(whole(1)), row(whole(1), whole(1)), row(whole(2)), row(whole(2), whole(1), whole(3)), row(free(1), whole(2), free(1), whole(5)),
		row(whole(255)), row(whole(1), whole(254)), row(whole(254), one(small(1))), row(whole(300)),
		// Headers of other kinds, and such as aren't right, are neither large ones nor further ones.
		row(one(other(4, 0, 1)), one(other(-1, 9, 9)), one(small(99)), one(other(0, 1, 2))), row(one(other(math.MaxInt, 0, 0)), whole(2)),
	} {
		checkSound(t, list, 0, true)
	}
	for _, h := range []header{small(7), large(1), large(2), large(4), large(0), cont(1), cont(2), other(9, 9, 9), other(-1, -1, -1)} {
		checkSound(t, one(h), 0, true)
		checkSound(t, append(one(h), free(3)...), 0, true)
		checkSound(t, append(one(h), whole(3)...), 0, true)
		checkSound(t, append(one(h), cont(1), cont(2), cont(3)), 1, false)
		checkSound(t, append(one(h), small(7), cont(2)), 2, false)
		checkSound(t, append(one(h), whole(2)[0]), 1, false)
	}
	two, three := whole(2), whole(3)
	for _, r := range []struct {
		list []header
		want int
	}{
		// Too long for the list.
		{row(one(large(2))), 1}, {row(one(large(255))), 1}, {row(three[:2]), 1}, {row(free(2), three[:2]), 3}, {row(whole(2), whole(5)[:4]), 3},
		// A further block is missing.
		{row(one(large(2)), free(1)), 1}, {row(one(large(2)), one(small(7))), 1}, {row(three[:2], free(1)), 1}, {row(one(large(3)), free(1), one(cont(2))), 1},
		{row(one(large(3)), whole(2)), 1}, {row(free(1), three[:2], one(small(0)), free(2)), 2},
		// One has another number, or another kind.
		{row(one(large(2)), one(cont(2))), 1}, {row(one(large(3)), one(cont(2)), one(cont(1))), 1}, {row(one(large(3)), one(cont(1)), one(cont(1))), 1},
		{row(one(large(3)), one(cont(1)), one(cont(3))), 1}, {row(one(large(3)), one(cont(0)), one(cont(1))), 1}, {row(one(large(2)), one(other(3, 1, 1))), 1},
		{row(one(large(2)), one(other(2, 0, 1))), 1}, {row(one(large(3)), one(cont(1)), one(other(1, 0, 2))), 1},
		// One is another large object's.
		{row(three[:2], two), 1}, {row(three[:1], two), 1}, {row(whole(4)[:2], two, one(cont(3))), 1},
		// No number that a large object may have.
		{row(one(large(0))), 1}, {row(one(large(-1)), free(3)), 1}, {row(free(1), one(large(math.MinInt))), 2}, {row(one(large(math.MaxInt)), one(cont(1))), 1}, {row(free(3), one(large(math.MaxInt-3)), free(2)), 4},
		// A further one of none.
		{row(one(cont(1))), 1}, {row(one(cont(2))), 1}, {row(one(cont(1)), free(2)), 1}, {row(free(1), one(cont(1)), free(1)), 2}, {row(free(3), one(cont(1))), 4},
		{row(two, one(cont(2))), 3}, {row(two, one(cont(1))), 3}, {row(whole(1), one(cont(1))), 2}, {row(three, free(1), one(cont(3))), 5}, {row(one(small(7)), one(cont(1))), 2},
		{row(two, three, one(cont(3)), two), 6}, {row(one(other(3, 5, -7))), 1}, {row(one(cont(0))), 1}, {row(whole(254), one(cont(254))), 255},
		// Of several the first.
		{row(one(cont(1)), one(large(2)), free(1)), 1}, {row(one(large(2)), free(1), one(cont(1))), 1}, {row(whole(2), one(cont(2)), one(large(9))), 3}, {row(free(2), one(large(9)), one(cont(2)), one(cont(2))), 3},
	} {
		checkSound(t, r.list, r.want, false)
		// What lies behind the list, in its spare room, isn't of it.
		checkSound(t, slices.Concat(r.list, whole(3)[1:])[:len(r.list)], r.want, false)
	}
	checkSound(t, row(whole(3))[:3], 1, false)
	checkSound(t, row(whole(2), one(cont(2)))[:3], 0, true)
}

// TestSoundOfAll: P12.1, of Sound: all lists of up to six headers of which each is of one of seven sorts.
func TestSoundOfAll(t *testing.T) {
	sorts := []header{{}, small(7), large(1), large(2), large(3), cont(1), cont(2)}
	ways := 1
	for many := range 7 {
		for way := range ways {
			list := make([]header, many)
			for block := range list {
				list[block] = sorts[way%len(sorts)]
				way /= len(sorts)
			}
			want, ok := sound(list)
			if block, got := bman.Sound(list); block != want || got != ok {
				t.Errorf("Sound(%v): %d, %t, want %d, %t", list, block, got, want, ok)
			}
		}
		ways *= len(sorts)
	}
}

// TestSoundChanged: P12.1, of Sound: one header of a sound list is another one, at each block.
func TestSoundChanged(t *testing.T) {
	for _, many := range []int{2, 3, 9, 60} {
		for _, list := range layouts(many) {
			checkSound(t, list, 0, true)
			for block := range many {
				was := list[block]
				for _, h := range []header{{}, small(7), large(1), large(2), large(many - block), large(many - block + 1), large(255), cont(1), cont(2), cont(block), cont(255), other(9, 9, 9)} {
					list[block] = h
					want, ok := sound(list)
					checkSound(t, list, want, ok)
				}
				list[block] = was
			}
		}
	}
}

// TestOpen: P12.1, of Open: the manager of sound headers; the device is left as it is.
func TestOpen(t *testing.T) {
	for many := 2; many <= 256; many++ {
		list := layouts(many)[many%9]
		checkOpen(t, "a layout", deviceOf(list), list)
	}
	for _, many := range edges() {
		for _, list := range layouts(many) {
			d := deviceOf(list)
			before := shotOf(d)
			checkAll(t, "a layout", d, checkOpen(t, "a layout", d, list), modelOf(list))
			checkSame(t, "Open", d, before)
		}
	}
	// Of what is now, not of what lasts; of a device that has stopped as well.
	was, is := row(free(3)), row(one(small(7)), whole(2))
	d := deviceOf(was)
	for block := 1; block < 4; block++ {
		d.Store(headers+block, wordOf(block, is[block]))
	}
	checkOpen(t, "what is stored", d, is)
	d.Arm(0)
	d.Fence()
	checkOpen(t, "of a device that has stopped", d, is)
	checkOpen(t, "what lasts", d.Crash(), was)
	// Whatever stands where the word of block 0 would be.
	for _, w := range []uint64{0, 1, math.MaxUint64, wordOf(0, small(7)), wordOf(0, large(2)), wordOf(0, large(255)), wordOf(0, cont(1))} {
		for _, list := range [][]header{is, was, row(whole(3))} {
			d := deviceOf(list)
			d.Store(headers, w)
			checkOpen(t, "block 0", d, list)
		}
	}
}

// TestOpenBlock: P12.1, of Open: ErrBlock of a word that is no block's header, also where the headers aren't sound.
func TestOpenBlock(t *testing.T) {
	for _, many := range edges() {
		for _, list := range [][]header{layouts(many)[0], layouts(many)[7], append(free(1), slices.Repeat(one(cont(1)), many-1)...)} {
			d := deviceOf(list)
			for block := 1; block < many; block++ {
				for _, w := range []uint64{0, 1, math.MaxUint64, wordOf(block, list[block]) ^ 1, wordOf(block, list[block]) ^ 1<<63, wordOf(block-1, header{}), wordOf(block+1, small(7)), sealed(4, block), sealed(2, block), sealed(0x81, block), sealed(1<<24, block)} {
					d.Store(headers+block, w)
					checkNoOpen(t, "one word", d, many, api.ErrBlock)
				}
				d.Store(headers+block, wordOf(block, list[block]))
			}
		}
		checkNoOpen(t, "noughts", nvm.New(512*many), many, api.ErrBlock)
	}
}

// TestOpenRun: P12.1, of Open: ErrRun of headers that aren't sound.
func TestOpenRun(t *testing.T) {
	three := whole(3)
	for _, list := range [][]header{
		row(one(large(2))), row(one(large(255))), row(one(cont(1))), row(one(cont(255))),
		row(free(1), one(large(2))), row(three[:2]), row(one(large(2)), free(1)), row(one(large(2)), one(small(7))), row(one(large(2)), one(cont(2))), row(three[:2], whole(2)),
		row(one(large(3)), one(cont(2)), one(cont(1))), row(one(cont(1)), free(3)), row(free(2), one(cont(1)), free(2)), row(free(4), one(cont(1))), row(whole(2), one(cont(2))), row(whole(1), one(cont(1))),
		row(whole(254), one(large(2))), row(whole(254), one(cont(254))), row(whole(255)[:254], free(1)), row(whole(255)[:254], whole(1)),
	} {
		d := deviceOf(list)
		before := shotOf(d)
		checkNoOpen(t, fmt.Sprint(list[:min(len(list), 6)]), d, len(list), api.ErrRun)
		checkSame(t, "Open", d, before)
	}
	for _, many := range []int{2, 3, 9, 40} {
		for _, list := range layouts(many) {
			d := deviceOf(list)
			for block := 1; block < many; block++ {
				was := list[block]
				for _, h := range []header{{}, small(7), large(1), large(2), large(min(many-block+1, 255)), cont(1), cont(2)} {
					list[block] = h
					d.Store(headers+block, wordOf(block, h))
					if _, ok := sound(list); ok {
						checkOpen(t, "a sound one", d, list)
					} else {
						checkNoOpen(t, "one that isn't sound", d, many, api.ErrRun)
					}
				}
				list[block] = was
				d.Store(headers+block, wordOf(block, was))
			}
		}
	}
}

// TestSmall: P12.2, of Small: each class; the blocks are taken in order, till none is left.
func TestSmall(t *testing.T) {
	for _, many := range edges() {
		d, m := formatted(t, many)
		want := modelOf(free(many))
		for i := range many - 1 {
			block, err := m.Small(i % 32)
			checkTake(t, "Small", block, err, i+1, api.OK)
			want.set(i+1, one(small(i%32)), false)
			if many < 50 || i%50 == 0 || i > many-4 {
				checkAll(t, "Small", d, m, want)
			}
		}
		before := shotOf(d)
		for k := range 32 {
			block, err := m.Small(k)
			checkTake(t, "Small where none is left", block, err, 0, api.ErrSpace)
		}
		checkSame(t, "Small where none is left", d, before)
		checkAll(t, "Small where none is left", d, m, want)
	}
	for k := range 32 {
		d, m := formatted(t, 2)
		block, err := m.Small(k)
		checkTake(t, "Small", block, err, 1, api.OK)
		checkAll(t, "Small", d, m, modelOf(row(one(small(k)))))
	}
}

// TestLarge: P12.2, of Large: each number of blocks that may be, of all that are free, and of some.
func TestLarge(t *testing.T) {
	for n := 1; n <= 255; n++ {
		if n > 20 && n%16 > 2 && n < 253 {
			continue
		}
		d, m := formatted(t, n+1)
		block, err := m.Large(n)
		checkTake(t, "Large of all", block, err, 1, api.OK)
		checkAll(t, "Large of all", d, m, modelOf(row(whole(n))))
		block, err = m.Large(1)
		checkTake(t, "Large where none is left", block, err, 0, api.ErrSpace)
		// Devices of the most blocks take long.
		if n > 3 && n%16 > 0 && n < 253 {
			continue
		}
		d, m = formatted(t, 256)
		block, err = m.Large(n)
		checkTake(t, "Large", block, err, 1, api.OK)
		list := row(whole(n), free(255-n))
		checkAll(t, "Large", d, m, modelOf(list))
		before := shotOf(d)
		block, err = m.Large(256 - n)
		checkTake(t, "Large of more than are left", block, err, 0, api.ErrSpace)
		checkSame(t, "Large of more than are left", d, before)
		checkAll(t, "Large of more than are left", d, m, modelOf(list))
		if n < 255 {
			block, err = m.Large(255 - n)
			checkTake(t, "Large of what is left", block, err, n+1, api.OK)
			checkAll(t, "Large of what is left", d, m, modelOf(row(whole(n), whole(255-n))))
		}
	}
}

// TestSteps: P12.2 and P12.3: the further blocks' headers are stored and persisted together, and so is the first one's: ahead of them in Release, behind them in Large.
func TestSteps(t *testing.T) {
	for _, n := range []int{1, 2, 3, 8, 9, 30} {
		d, m := formatted(t, 40)
		twin := d.Crash()
		want := modelOf(free(40))
		steps := d.Steps()
		m.Large(n)
		want.doPuts(twin, takePuts(1, whole(n)))
		if got := d.Steps() - steps; got != twin.Steps() || got != stepsOf(takePuts(1, whole(n))) {
			t.Errorf("Large(%d): %d steps, want %d", n, got, twin.Steps())
		}
		steps = d.Steps()
		m.Small(7)
		if got := d.Steps() - steps; got != 3 {
			t.Errorf("Small: %d steps, want 3: a store, a flush, a fence", got)
		}
		steps = d.Steps()
		m.Release(n + 1)
		if got := d.Steps() - steps; got != 3 {
			t.Errorf("Release of a block: %d steps, want 3: a store, a flush, a fence", got)
		}
		steps = d.Steps()
		m.Release(1)
		if got := d.Steps() - steps; got != stepsOf(givePuts(1, n)) {
			t.Errorf("Release of %d blocks: %d steps, want %d", n, got, stepsOf(givePuts(1, n)))
		}
		if len(d.Dirty()) != 0 {
			t.Errorf("dirty: %v", d.Dirty())
		}
	}
}

// TestBest: P12.2: of several runs that have enough, the shortest, and of alike ones the first.
func TestBest(t *testing.T) {
	list := row(free(5), one(small(1)), free(3), whole(2), free(3), one(small(2)), free(4), whole(1), free(6), one(small(3)), free(2), one(small(4)), free(1), one(small(5)))
	for i, want := range []int{31, 28, 7, 16, 1, 21} {
		n := i + 1
		d := deviceOf(list)
		m := checkOpen(t, "several runs", d, list)
		block, err := m.Large(n)
		checkTake(t, "Large", block, err, want, api.OK)
		now := modelOf(list)
		now.set(want, whole(n), false)
		checkAll(t, "Large", d, m, now)
	}
	d := deviceOf(list)
	m := checkOpen(t, "several runs", d, list)
	now := modelOf(list)
	for _, want := range []int{31, 28, 29, 7, 8, 9, 12, 13, 14, 16, 17, 18, 19, 1, 2, 3, 4, 5, 21, 22, 23, 24, 25, 26} {
		block, err := m.Small(9)
		checkTake(t, "Small", block, err, want, api.OK)
		now.set(want, one(small(9)), false)
		checkRuns(t, "Small", m, now)
	}
	checkAll(t, "none is left", d, m, now)
	// The last free block.
	for _, block := range []int{1, 15, 39} {
		list := row(slices.Repeat(one(small(0)), 39))
		list[block] = header{}
		for _, large := range []bool{false, true} {
			m := checkOpen(t, "one is left", deviceOf(list), list)
			take, what := m.Small, "Small(1)"
			if large {
				take, what = m.Large, "Large(1)"
			}
			got, err := take(1)
			checkTake(t, what, got, err, block, api.OK)
			got, err = take(1)
			checkTake(t, what, got, err, 0, api.ErrSpace)
		}
	}
}

// TestTakeWrong: P12.2: ErrArg of classes and numbers that aren't, ErrSpace where no run has as many; ErrArg also where none has; nothing is changed.
func TestTakeWrong(t *testing.T) {
	for _, many := range []int{2, 3, 9, 256} {
		for _, list := range append(layouts(many), laid(many, one(small(3)))) {
			d := deviceOf(list)
			m := checkOpen(t, "a layout", d, list)
			longest := modelOf(list).longest()
			before := shotOf(d)
			refused := func() {
				t.Helper()
				for _, k := range append(far(), 32, 33, 63, 64, 255, 256) {
					block, err := m.Small(k)
					checkTake(t, fmt.Sprintf("Small(%d)", k), block, err, 0, api.ErrArg)
				}
				for _, n := range append(far(), 0, 256, 257, 511, 512) {
					block, err := m.Large(n)
					checkTake(t, fmt.Sprintf("Large(%d)", n), block, err, 0, api.ErrArg)
				}
				for n := longest + 1; n <= 255; n++ {
					block, err := m.Large(n)
					checkTake(t, fmt.Sprintf("Large(%d)", n), block, err, 0, api.ErrSpace)
				}
				if longest == 0 {
					block, err := m.Small(0)
					checkTake(t, "Small(0)", block, err, 0, api.ErrSpace)
				}
			}
			refused()
			d.Arm(0)
			refused()
			checkSame(t, "refused", d, before)
			d.Fence()
			before = shotOf(d)
			refused()
			checkSame(t, "refused on a device that has stopped", d, before)
			checkManager(t, "refused", m, modelOf(list))
		}
	}
	// All together would have enough.
	list := laid(41, free(3), one(small(0)))
	m := checkOpen(t, "runs of three", deviceOf(list), list)
	for _, n := range []int{4, 5, 30, 31} {
		block, err := m.Large(n)
		checkTake(t, "Large", block, err, 0, api.ErrSpace)
	}
}

// TestRelease: P12.3: each block of small objects, and each large object, alone, and all of them; block 1, and the last one.
func TestRelease(t *testing.T) {
	for _, many := range edges() {
		for _, list := range layouts(many) {
			d := deviceOf(list)
			all := checkOpen(t, "a layout", d, list)
			now := modelOf(list)
			for block := 1; block < many; block++ {
				n := modelOf(list).extent(block)
				if n == 0 {
					continue
				}
				if many < 50 || block == 1 || block+n == many {
					alone := deviceOf(list)
					m := checkOpen(t, "a layout", alone, list)
					want := modelOf(list)
					check(t, "Release", m.Release(block), api.OK)
					check(t, "Release", want.release(block), api.OK)
					checkAll(t, "Release", alone, m, want)
				}
				check(t, "Release", all.Release(block), api.OK)
				check(t, "Release", now.release(block), api.OK)
				checkRuns(t, "Release", all, now)
			}
			checkAll(t, "all are given back", d, all, modelOf(free(many)))
			block, err := all.Large(many - 1)
			checkTake(t, "Large of all", block, err, 1, api.OK)
			checkAll(t, "Large of all", d, all, modelOf(row(whole(many-1))))
			check(t, "Release", all.Release(1), api.OK)
			checkAll(t, "free again", d, all, modelOf(free(many)))
		}
	}
}

// TestReleaseJoins: P12.3: what is given back joins the free blocks that it touches.
func TestReleaseJoins(t *testing.T) {
	list := row(one(small(0)), free(2), whole(2), free(1), one(small(1)), one(small(2)), whole(3))
	d := deviceOf(list)
	m := checkOpen(t, "ahead", d, list)
	for _, r := range []struct {
		block int
		want  []span
	}{
		{8, []span{runOf(2, 2), runOf(6, 1), runOf(8, 1)}},
		{4, []span{runOf(2, 5), runOf(8, 1)}},
		{7, []span{runOf(2, 7)}},
		{1, []span{runOf(1, 8)}},
		{9, []span{runOf(1, 11)}},
	} {
		check(t, "Release", m.Release(r.block), api.OK)
		if got := m.Runs(); !slices.Equal(got, r.want) {
			t.Errorf("behind Release(%d): Runs %v, want %v", r.block, got, r.want)
		}
	}
}

// TestReleaseWrong: P12.3: ErrMissing of what is neither a block of small objects nor a large object's first one; a second time too; nothing is changed.
func TestReleaseWrong(t *testing.T) {
	for _, many := range edges() {
		for _, list := range layouts(many) {
			d := deviceOf(list)
			m := checkOpen(t, "a layout", d, list)
			before := shotOf(d)
			numbers := append(far(), 0, many, many+1, 256, 257, 512)
			for block, h := range list {
				if h.Kind != 1 && h.Kind != 2 {
					numbers = append(numbers, block)
				}
			}
			for _, block := range numbers {
				check(t, fmt.Sprintf("Release(%d)", block), m.Release(block), api.ErrMissing)
			}
			checkManager(t, "refused", m, modelOf(list))
			d.Arm(0)
			check(t, "Release", m.Release(0), api.ErrMissing)
			checkSame(t, "refused", d, before)
			d.Fence()
			for _, block := range numbers {
				check(t, fmt.Sprintf("Release(%d)", block), m.Release(block), api.ErrMissing)
			}
			checkManager(t, "refused on a device that has stopped", m, modelOf(list))
		}
	}
	list := row(one(small(7)), whole(2), whole(1), free(1))
	d := deviceOf(list)
	m := checkOpen(t, "some", d, list)
	now := modelOf(list)
	for _, block := range []int{1, 2, 4} {
		check(t, "Release", m.Release(block), api.OK)
		now.release(block)
		before := shotOf(d)
		for range 2 {
			check(t, "Release once more", m.Release(block), api.ErrMissing)
		}
		checkSame(t, "Release once more", d, before)
		checkAll(t, "Release once more", d, m, now)
	}
}

// checkCrashes: whichever lines a crash keeps, all headers but those of the puts last as they were, and those as they were or as they were put; no large object lasts that isn't whole.
func checkCrashes(t *testing.T, what string, d *nvm.Device, list []header, puts []put) {
	t.Helper()
	for i, choices := range fates() {
		if len(list) > 100 && i > 2 && i%5 != 0 {
			continue
		}
		lasts, _, err := blocks.Read(d.Crash(choices...), of(len(list)))
		if err != api.OK {
			t.Errorf("%s, and a crash (%v): error %d", what, choices, err)
			continue
		}
		will := slices.Clone(list)
		for _, p := range puts {
			copy(will[p.block:], p.list)
		}
		for block, h := range lasts {
			if h != list[block] && h != will[block] {
				t.Errorf("%s, and a crash (%v): block %d: %v, want %v or %v", what, choices, block, h, list[block], will[block])
			}
			if _, ok := bhead.Whole(lasts, block); h.Kind == api.Large && !ok {
				t.Errorf("%s, and a crash (%v): the large object of block %d isn't whole", what, choices, block)
			}
		}
	}
}

// stopped lets a call be stopped at each of its steps: what is stored till then is so, what was to be taken stays taken, what was to be given back isn't free, and all else lasts.
func stopped(t *testing.T, what string, list []header, puts []put, call func(m *bman.Manager) (int, api.Errno)) {
	t.Helper()
	steps := stepsOf(puts)
	for stop := range steps + 1 {
		if steps > 100 && stop%37 > 1 && stop < steps-5 {
			continue
		}
		what := fmt.Sprintf("%s, stopped behind %d steps", what, stop)
		d, twin := deviceOf(list), deviceOf(list)
		m := checkOpen(t, what, d, list)
		d.Arm(stop)
		twin.Arm(stop)
		now := modelOf(list)
		now.doPuts(twin, puts)
		block, err := call(m)
		if stop == steps {
			check(t, what, err, api.OK)
			check(t, "the step behind it", d.Fence(), api.ErrDead)
			continue
		}
		checkTake(t, what, block, err, 0, api.ErrDead)
		checkSame(t, what, d, shotOf(twin))
		checkManager(t, what, m, now)
		checkCrashes(t, what, d, list, puts)
		checkDead(t, what, m, now)
	}
}

// checkDead: on a device that has stopped, what is taken stays taken, and what should be given back isn't free.
func checkDead(t *testing.T, what string, m *bman.Manager, now *model) {
	t.Helper()
	for block := range now.list {
		want := api.ErrMissing
		if now.extent(block) > 0 {
			want = api.ErrDead
		}
		check(t, what+", Release", m.Release(block), want)
	}
	checkManager(t, what+", Release", m, now)
	for _, n := range []int{2, 1} {
		block, err := m.Large(n)
		if at := now.fit(n); at == 0 {
			checkTake(t, what+", Large", block, err, 0, api.ErrSpace)
		} else {
			checkTake(t, what+", Large", block, err, 0, api.ErrDead)
			now.set(at, now.list[at:at+n], false)
		}
		checkManager(t, what+", Large", m, now)
	}
	for now.total() > 0 {
		at := now.fit(1)
		block, err := m.Small(0)
		checkTake(t, what+", Small", block, err, 0, api.ErrDead)
		now.set(at, free(1), false)
		checkRuns(t, what+", Small", m, now)
	}
	block, err := m.Small(0)
	checkTake(t, what+", Small", block, err, 0, api.ErrSpace)
	checkManager(t, what+", Small", m, now)
}

// TestStops: P12.2, P12.3 and P12.4: a device that stops at each step of Small, of Large and of Release.
func TestStops(t *testing.T) {
	lists := [][]header{
		free(2), free(3), free(9), free(21), layouts(9)[5], layouts(9)[6], layouts(20)[5], layouts(24)[7], layouts(36)[8], row(free(12), one(small(3)), free(5), whole(3), free(4), whole(10)),
	}
	for _, list := range lists {
		m := modelOf(list)
		stopped(t, "Small", list, takePuts(m.fit(1), one(small(7))), func(m *bman.Manager) (int, api.Errno) { return m.Small(7) })
		for _, n := range []int{1, 2, 3, m.longest() - 1, m.longest()} {
			if n < 1 || n > m.longest() {
				continue
			}
			stopped(t, fmt.Sprintf("Large(%d)", n), list, takePuts(m.fit(n), whole(n)), func(m *bman.Manager) (int, api.Errno) { return m.Large(n) })
		}
		for block := range list {
			if n := m.extent(block); n > 0 && (len(list) < 22 || block%5 < 2) {
				stopped(t, fmt.Sprintf("Release(%d)", block), list, givePuts(block, n), func(m *bman.Manager) (int, api.Errno) { return 0, m.Release(block) })
			}
		}
	}
	stopped(t, "Large(255)", free(256), takePuts(1, whole(255)), func(m *bman.Manager) (int, api.Errno) { return m.Large(255) })
	stopped(t, "Release(1)", row(whole(255)), givePuts(1, 255), func(m *bman.Manager) (int, api.Errno) { return 0, m.Release(1) })
	full := row(whole(100), one(small(7)), whole(3), whole(140), one(small(8)))
	stopped(t, "Release(105)", append(full, free(10)...), givePuts(105, 140), func(m *bman.Manager) (int, api.Errno) { return 0, m.Release(105) })
}

// TestWalk: P12.1 to P12.4, against the model: blocks are taken and given back in all orders, till the device stops in the midst of one; what the calls ahead told lasts.
func TestWalk(t *testing.T) {
	number := next(12)
	for _, many := range []int{2, 3, 6, 20, 33, 70, 256} {
		for range 6 {
			walk(t, number, many)
		}
	}
}

func walk(t *testing.T, number func(int) int, many int) {
	t.Helper()
	d, m := formatted(t, many)
	want := modelOf(free(many))
	for i := range 120 {
		var block, at int
		var err, wantErr api.Errno
		switch number(5) {
		case 0, 1:
			k := number(34) - 1
			block, err = m.Small(k)
			at, wantErr = want.small(k)
		case 2:
			n := number(6)
			if number(6) == 0 {
				n = number(many + 2)
			}
			block, err = m.Large(n)
			at, wantErr = want.large(n)
		default:
			given := number(many+2) - 1
			err = m.Release(given)
			wantErr = want.release(given)
		}
		checkTake(t, "a walk", block, err, at, wantErr)
		checkManager(t, "a walk", m, want)
		if i%10 == 0 {
			checkAll(t, "a walk", d, m, want)
		}
		if number(30) == 0 {
			d = d.Crash()
			m = checkOpen(t, "behind a crash", d, want.list)
		}
	}
	d.Arm(number(12))
	list := m.All()
	at, n := want.fit(2), 2
	if at == 0 {
		return
	}
	if _, err := m.Large(n); err != api.OK {
		checkCrashes(t, "the end of a walk", d, list, takePuts(at, whole(n)))
	}
}

// spoilSpans writes over a list that was answered, with its spare room.
func spoilSpans(list []span) {
	for i := range list[:cap(list)] {
		list[:cap(list)][i] = runOf(9, 9)
	}
}

// spoil writes over headers that were answered, or handed in, with their spare room.
func spoil(list []header) {
	for i := range list[:cap(list)] {
		list[:cap(list)][i] = other(9, 9, 9)
	}
}

// TestLeft: P2: what is handed in stays as it was, what is answered is new, and two managers know nothing of each other.
func TestLeft(t *testing.T) {
	list, others := row(one(small(7)), free(2), whole(2), free(1)), row(whole(1), free(3))
	d, neighbours := deviceOf(list), deviceOf(others)
	m, neighbour := checkOpen(t, "this one", d, list), checkOpen(t, "the other one", neighbours, others)
	for range 3 {
		all, second := m.All(), m.All()
		spoil(all)
		if !slices.Equal(second, list) {
			t.Errorf("All, answered ahead: %v", second)
		}
		runs, third := m.Runs(), m.Runs()
		spoilSpans(runs)
		if !slices.Equal(third, []span{runOf(2, 2), runOf(6, 1)}) {
			t.Errorf("Runs, answered ahead: %v", third)
		}
		handed := append(slices.Clone(list), small(3))[:len(list)]
		checkSound(t, handed, 0, true)
		spoil(handed)
		checkSound(t, list, 0, true)
		checkAll(t, "this one", d, m, modelOf(list))
		checkAll(t, "the other one", neighbours, neighbour, modelOf(others))
		checkNoOpen(t, "a device of noughts", nvm.New(3072), 6, api.ErrBlock)
	}
	now := modelOf(list)
	block, err := m.Large(2)
	checkTake(t, "Large", block, err, 2, api.OK)
	now.set(2, whole(2), false)
	check(t, "Release", m.Release(1), api.OK)
	now.release(1)
	checkAll(t, "this one", d, m, now)
	checkAll(t, "the other one", neighbours, neighbour, modelOf(others))
	block, err = neighbour.Small(5)
	checkTake(t, "Small", block, err, 2, api.OK)
	checkAll(t, "this one", d, m, now)
	checkAll(t, "the other one", neighbours, neighbour, modelOf(row(whole(1), one(small(5)), free(2))))
}

// ends makes all calls with a device and a geometry.
func ends(d *nvm.Device, g geom.Geometry) {
	m, err := bman.Open(d, g)
	if err != api.OK {
		return
	}
	for _, n := range append(far(), 0, 1, 2, 3, 31, 32, 254, 255, 256, 257, m.Len()-1, m.Len(), m.Len()+1) {
		m.Large(n)
		m.Small(n)
		m.Release(n)
		m.FreeBlocks()
		m.Longest()
		m.Runs()
		m.Geometry()
		m.Get(n)
	}
}

// TestAllEnd: P1: no call panics, and each ends: of geometries that aren't right, on devices of other words, whatever these are.
func TestAllEnd(t *testing.T) {
	numbers := append(far(), 0, 1, 2, 3, 4, 31, 32, 254, 255, 256, 257, 258, 511, 512, 768, 769, 1024, 1<<20+1)
	for _, many := range numbers {
		for _, words := range []int{math.MinInt, 0, 1, 8, 256, 264, 512, 1024, 2048, 10000} {
			ends(nvm.New(words), of(many))
		}
		for _, fill := range []uint64{1, math.MaxUint64} {
			ends(nvm.Load(slices.Repeat([]uint64{fill}, 2048)...), of(many))
		}
		for _, list := range layouts(9) {
			ends(deviceOf(list), of(many))
		}
		dead := deviceOf(make([]header, 4))
		dead.Arm(0)
		dead.Fence()
		ends(dead, of(many))
	}
	for _, many := range []int{math.MinInt, 2, 255, 256, 257, math.MaxInt} {
		d := nvm.New(131584)
		blocks.Format(d, of(many))
		ends(d, of(many))
	}
	// Each word is a header's, as far as the device goes.
	for _, h := range []header{{}, small(7), large(1), large(2), cont(1)} {
		words := make([]uint64, 4096)
		for at := range words {
			words[at] = wordOf(at-headers, h)
		}
		for _, many := range numbers {
			ends(nvm.Load(words...), of(many))
		}
	}
	for _, list := range [][]header{one(large(math.MaxInt)), one(large(math.MinInt)), one(cont(math.MaxInt)), one(other(math.MinInt, math.MinInt, math.MinInt)), one(other(math.MaxInt, math.MaxInt, math.MaxInt))} {
		for many := range 5 {
			bman.Sound(slices.Repeat(list, many))
		}
	}
}
