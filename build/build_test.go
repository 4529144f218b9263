package build

import (
	"encoding/binary"
	"math"
	"slices"
	"testing"

	"dumbwaiter/api"
	"dumbwaiter/desc"
	"dumbwaiter/serial"
)

// far are numbers that are out of range for whatever is asked.
var far = []int{-1, -2, -64, math.MinInt, math.MinInt + 1, api.MaxSize, api.MaxSize + 1, 1 << 16, 1<<16 + 1, 1 << 32, 1<<32 + 1, math.MaxInt}

// addresses are where a table may be: whatever is passed.
var addresses = []uint64{0, 1, 5, 0x1000, 1 << 32, math.MaxUint64 - 15, math.MaxUint64}

// mixed returns a buffer of so many segments that are read, and so many that are written.
func mixed(read, written int) []api.Seg {
	var l []api.Seg
	for n := range read + written {
		l = append(l, api.Seg{At: uint64(0x1_0203_0405_0600 * (n + 1)), Len: uint32(0x01_0203 + n*n), Write: n >= read})
	}
	return l
}

// buffers returns valid ones of each number of segments, and those at the
// edges of what is valid.
func buffers() [][]api.Seg {
	all := [][]api.Seg{
		{{At: 100, Len: 8}, {At: 200, Len: 4, Write: true}},
		{{Len: 1}},
		{{Len: 1, Write: true}},
		{{At: math.MaxUint64, Len: 1}},
		{{At: math.MaxUint64, Len: 1}, {At: math.MaxUint64 - 1, Len: 2, Write: true}},
		{{Len: math.MaxUint32}},
		{{At: 1<<64 - 1<<32 + 1, Len: math.MaxUint32, Write: true}},
		{{At: 7, Len: math.MaxUint32 - 1}, {At: 7, Len: 1}},
		{{At: 7, Len: 3}, {At: 7, Len: 3}, {At: 7, Len: 3, Write: true}, {At: 7, Len: 3, Write: true}},
	}
	for n := 1; n <= 6; n++ {
		for read := range n + 1 {
			all = append(all, mixed(read, n-read))
		}
	}
	for _, n := range []int{31, 32, 33, 63, 64} {
		all = append(all, mixed(n, 0), mixed(0, n), mixed(n/2, n-n/2), mixed(n-1, 1), mixed(1, n-1))
	}
	return all
}

// wrongBuffer is a buffer from which nothing is built, and why.
type wrongBuffer struct {
	l []api.Seg
	e api.Errno
}

func wrongBuffers() []wrongBuffer {
	long := mixed(30, 35)
	worse := mixed(30, 35)
	worse[3].Len = 0
	return []wrongBuffer{
		{nil, api.ErrArg},
		{[]api.Seg{}, api.ErrArg},
		{make([]api.Seg, 0, 3), api.ErrArg},
		{long, api.ErrLong},
		{worse, api.ErrLong},
		{make([]api.Seg, 65), api.ErrLong},
		{make([]api.Seg, 1000), api.ErrLong},
		{make([]api.Seg, 64), api.ErrArg},
		{[]api.Seg{{At: 5}}, api.ErrArg},
		{[]api.Seg{{At: 5, Len: 1}, {At: 5, Write: true}}, api.ErrArg},
		{[]api.Seg{{At: 5, Len: 1, Write: true}, {At: 6, Len: 1}}, api.ErrArg},
		{[]api.Seg{{At: math.MaxUint64, Len: 2}}, api.ErrArg},
		{[]api.Seg{{At: 1, Len: math.MaxUint32}, {At: 1, Len: 1}}, api.ErrArg},
	}
}

// rising returns n numbers from the first one on.
func rising(first, n int) []int {
	var ids []int
	for k := range n {
		ids = append(ids, first+k)
	}
	return ids
}

// scattered returns n different numbers in no order, 0 and the greatest among them.
func scattered(n int) []int {
	ids := []int{api.MaxSize - 1, 0}
	for k := 2; k < n; k++ {
		ids = append(ids, (k*12345+7)%api.MaxSize)
	}
	return ids[:n]
}

// chainOf is the split chain of a buffer as the chapter tells it.
func chainOf(ids []int, l []api.Seg) []api.Put {
	all := make([]api.Put, len(l))
	for n, s := range l {
		all[n].At = ids[n]
		all[n].Desc.Addr = s.At
		all[n].Desc.Len = s.Len
		if s.Write {
			all[n].Desc.Flags = 2
		}
		if n > 0 {
			all[n-1].Desc.Flags += 1
			all[n-1].Desc.Next = uint16(ids[n])
		}
	}
	return all
}

// packedChainOf is the packed chain of a buffer as the chapter tells it: each
// position follows the one before it.
func packedChainOf(p api.Pos, size, id int, l []api.Seg) []api.PutPacked {
	var all []api.PutPacked
	for n, s := range l {
		flags := uint16(0x8000)
		if p.Wrap {
			flags = 0x0080
		}
		if s.Write {
			flags += 2
		}
		if n+1 < len(l) {
			flags += 1
		}
		all = append(all, api.PutPacked{At: p.At, Desc: api.Packed{Addr: s.At, Len: s.Len, ID: uint16(id), Flags: flags}})
		p.At++
		if p.At == size {
			p = api.Pos{At: 0, Wrap: !p.Wrap}
		}
	}
	return all
}

// tableOf is the bytes of a table: for each segment its At, its Len, and the
// two words behind these.
func tableOf(l []api.Seg, words func(n int, s api.Seg) (third, fourth uint16)) []byte {
	var b []byte
	for n, s := range l {
		third, fourth := words(n, s)
		b = binary.LittleEndian.AppendUint64(b, s.At)
		b = binary.LittleEndian.AppendUint32(b, s.Len)
		b = binary.LittleEndian.AppendUint16(b, third)
		b = binary.LittleEndian.AppendUint16(b, fourth)
	}
	return b
}

func splitTableOf(l []api.Seg) []byte {
	return tableOf(l, func(n int, s api.Seg) (flags, next uint16) {
		if s.Write {
			flags = 2
		}
		if n+1 < len(l) {
			return flags + 1, uint16(n + 1)
		}
		return flags, 0
	})
}

func packedTableOf(l []api.Seg) []byte {
	return tableOf(l, func(_ int, s api.Seg) (id, flags uint16) {
		if s.Write {
			return 0, 2
		}
		return 0, 0
	})
}

// places returns positions of a ring of that size, with both wrap counters:
// all, or in a great ring those at its ends.
func places(size int) []api.Pos {
	var all []api.Pos
	for at := range size {
		if size <= 70 || at < 3 || at >= size-70 {
			all = append(all, api.Pos{At: at}, api.Pos{At: at, Wrap: true})
		}
	}
	return all
}

// sizes are those of packed rings, also ones that are no power of 2.
var sizes = []int{1, 2, 3, 4, 5, 6, 7, 8, 31, 63, 64, 65, 100, 256, 4095, api.MaxSize - 1, api.MaxSize}

// P9.1: chains of all buffers, at rising, falling and scattered numbers.
func TestSplit(t *testing.T) {
	for _, l := range buffers() {
		falling := rising(0, len(l))
		slices.Reverse(falling)
		for _, ids := range [][]int{rising(0, len(l)), falling, rising(api.MaxSize-len(l), len(l)), scattered(len(l)), rising(255, len(l))} {
			if p, e := Split(ids, l); e != api.OK || !slices.Equal(p, chainOf(ids, l)) {
				t.Fatal(ids, l, p, e)
			}
		}
	}
}

// P9.1: all lists of up to four numbers for small buffers: as many as there are
// segments, each in range, no two equal.
func TestSplitNumbers(t *testing.T) {
	lists := [][]int{nil}
	for from, length := 0, 0; length < 4; length++ {
		to := len(lists)
		for ; from < to; from++ {
			for _, id := range []int{-1, 0, 1, 2, 3, api.MaxSize - 1, api.MaxSize} {
				lists = append(lists, append(slices.Clone(lists[from]), id))
			}
		}
	}
	for _, ids := range lists {
		fine := true
		for i, id := range ids {
			fine = fine && id >= 0 && id < api.MaxSize && !slices.Contains(ids[:i], id)
		}
		for n := 1; n <= 5; n++ {
			l := mixed(n/2, n-n/2)
			p, e := Split(ids, l)
			if fine && len(ids) == n {
				if e != api.OK || !slices.Equal(p, chainOf(ids, l)) {
					t.Fatal(ids, n, p, e)
				}
			} else if e != api.ErrArg || len(p) != 0 {
				t.Fatal(ids, n, p, e)
			}
		}
	}
}

// P9.1: each number of a long list far out of range, or equal to another.
func TestSplitWrong(t *testing.T) {
	l := mixed(20, 44)
	for i := range l {
		for _, id := range far {
			ids := scattered(64)
			ids[i] = id
			if p, e := Split(ids, l); e != api.ErrArg || len(p) != 0 {
				t.Fatal(i, id, p, e)
			}
		}
		for k := range i {
			ids := scattered(64)
			ids[i] = ids[k]
			if p, e := Split(ids, l); e != api.ErrArg || len(p) != 0 {
				t.Fatal(i, k, p, e)
			}
		}
	}
	for _, n := range []int{0, 1, 63, 65, 128, api.MaxSize} {
		if p, e := Split(rising(0, n), l); e != api.ErrArg || len(p) != 0 {
			t.Error(n, p, e)
		}
	}
}

// P9.1, P9.2: the error of the buffer comes first, whatever else is wrong.
func TestWrongBuffers(t *testing.T) {
	for _, w := range wrongBuffers() {
		n := len(w.l)
		for _, ids := range [][]int{nil, rising(0, n), rising(-1, n), make([]int, n), rising(0, n+1), rising(api.MaxSize, n)} {
			if p, e := Split(ids, w.l); e != w.e || len(p) != 0 {
				t.Error(ids, w.l, p, e)
			}
		}
		for _, size := range []int{0, 1, 4, 64, 128, api.MaxSize, api.MaxSize + 1} {
			for _, p := range []api.Pos{{}, {Wrap: true}, {At: 3}, {At: -1}, {At: size}} {
				for _, id := range []int{-1, 0, size} {
					if q, e := Packed(p, size, id, w.l); e != w.e || len(q) != 0 {
						t.Error(p, size, id, w.l, q, e)
					}
				}
			}
		}
		if b, e := SplitTable(w.l); e != w.e || len(b) != 0 {
			t.Error(w.l, b, e)
		}
		if b, e := PackedTable(w.l); e != w.e || len(b) != 0 {
			t.Error(w.l, b, e)
		}
		if Needs(w.l, false) != 0 || Needs(w.l, true) != 0 {
			t.Error(w.l)
		}
	}
}

// P9.1, P9.2: the bytes of both kinds of tables, and how many descriptors there are.
func TestTables(t *testing.T) {
	for _, l := range buffers() {
		if b, e := SplitTable(l); e != api.OK || !slices.Equal(b, splitTableOf(l)) {
			t.Error(l, b, e)
		}
		if b, e := PackedTable(l); e != api.OK || !slices.Equal(b, packedTableOf(l)) {
			t.Error(l, b, e)
		}
		if Needs(l, false) != len(l) || Needs(l, true) != 1 {
			t.Error(l)
		}
	}
}

// P9.1: the descriptor of a table of each number of entries.
func TestSplitOne(t *testing.T) {
	for _, at := range addresses {
		for _, id := range []int{0, 1, 2, 7, 255, 256, api.MaxSize - 1} {
			for n := -2; n <= 70; n++ {
				p, e := SplitOne(id, at, n)
				if n < 1 || n > 64 {
					if e != api.ErrArg || p != (api.Put{}) {
						t.Error(id, at, n, p, e)
					}
				} else if e != api.OK || p != (api.Put{At: id, Desc: api.Desc{Addr: at, Len: uint32(16 * n), Flags: 4}}) {
					t.Error(id, at, n, p, e)
				}
			}
		}
		for _, wrong := range far {
			for _, n := range []int{0, 1, 64, 65} {
				if p, e := SplitOne(wrong, at, n); e != api.ErrArg || p != (api.Put{}) {
					t.Error(wrong, at, n, p, e)
				}
			}
			if p, e := SplitOne(3, at, wrong); e != api.ErrArg || p != (api.Put{}) {
				t.Error(at, wrong, p, e)
			}
		}
	}
}

// P9.2: packed chains from each position on, as long as there is room.
func TestPacked(t *testing.T) {
	all := buffers()
	for _, size := range sizes {
		for _, p := range places(size) {
			for i, l := range all {
				// One ID of the ring for each buffer, the lowest and the highest among them.
				id := []int{0, size - 1, size / 2, min(300, size-1)}[i%4]
				q, e := Packed(p, size, id, l)
				if len(l) > size {
					if e != api.ErrArg || len(q) != 0 {
						t.Fatal(p, size, id, l, q, e)
					}
				} else if e != api.OK || !slices.Equal(q, packedChainOf(p, size, id, l)) {
					t.Fatal(p, size, id, l, q, e)
				}
			}
		}
	}
}

// wrongRing is a place that no ring has.
type wrongRing struct {
	p        api.Pos
	size, id int
}

func wrongRings() []wrongRing {
	var all []wrongRing
	for _, wrap := range []bool{false, true} {
		for _, size := range sizes {
			for _, id := range append(slices.Clone(far), size, size+1, 2*size, 1<<16+size-1) {
				all = append(all, wrongRing{api.Pos{At: size - 1, Wrap: wrap}, size, id}, wrongRing{api.Pos{At: size, Wrap: wrap}, size, id})
			}
			for _, at := range append(slices.Clone(far), size, size+1, 2*size, 1<<16+size-1) {
				all = append(all, wrongRing{api.Pos{At: at, Wrap: wrap}, size, 0}, wrongRing{api.Pos{At: at, Wrap: wrap}, size, size - 1})
			}
		}
		for _, size := range append(slices.Clone(far), 0) {
			if size == api.MaxSize {
				continue
			}
			all = append(all, wrongRing{api.Pos{Wrap: wrap}, size, 0}, wrongRing{api.Pos{At: size - 1, Wrap: wrap}, size, size - 1}, wrongRing{api.Pos{At: 1, Wrap: wrap}, size, 2})
		}
	}
	return all
}

// P9.2: positions, sizes and IDs that no ring has.
func TestWrongRings(t *testing.T) {
	for _, w := range wrongRings() {
		for _, l := range [][]api.Seg{mixed(1, 0), mixed(0, 1), mixed(1, 1), mixed(32, 32)} {
			if q, e := Packed(w.p, w.size, w.id, l); e != api.ErrArg || len(q) != 0 {
				t.Error(w, len(l), q, e)
			}
		}
		for _, n := range []int{-1, 0, 1, 2, 64, 65} {
			if q, e := PackedOne(w.p, w.size, w.id, 0x1000, n); e != api.ErrArg || q != (api.PutPacked{}) {
				t.Error(w, n, q, e)
			}
		}
	}
}

// P9.2: the descriptor of a table in a packed ring, also of more entries than
// the ring has.
func TestPackedOne(t *testing.T) {
	for _, size := range sizes {
		for _, p := range places(size) {
			flags := uint16(0x8004)
			if p.Wrap {
				flags = 0x0084
			}
			at := addresses[p.At%len(addresses)]
			for _, id := range []int{0, size / 2, size - 1} {
				for _, n := range []int{1, 2, 3, 15, 16, 17, 63, 64} {
					want := api.PutPacked{At: p.At, Desc: api.Packed{Addr: at, Len: uint32(16 * n), ID: uint16(id), Flags: flags}}
					if q, e := PackedOne(p, size, id, at, n); e != api.OK || q != want {
						t.Fatal(p, size, id, n, q, e)
					}
				}
			}
			for _, n := range append(slices.Clone(far), 0, 65) {
				if q, e := PackedOne(p, size, 0, at, n); e != api.ErrArg || q != (api.PutPacked{}) {
					t.Fatal(p, size, n, q, e)
				}
			}
		}
	}
}

// P9.1, P9.2: the examples of the chapter.
func TestExamples(t *testing.T) {
	l := []api.Seg{{At: 100, Len: 8}, {At: 200, Len: 4, Write: true}}
	p, e := Split([]int{3, 1}, l)
	if want := []api.Put{
		{At: 3, Desc: api.Desc{Addr: 100, Len: 8, Flags: api.FlagNext, Next: 1}},
		{At: 1, Desc: api.Desc{Addr: 200, Len: 4, Flags: api.FlagWrite}},
	}; e != api.OK || !slices.Equal(p, want) {
		t.Error(p, e)
	}
	q, e := Packed(api.Pos{At: 3, Wrap: true}, 4, 2, l)
	if want := []api.PutPacked{
		{At: 3, Desc: api.Packed{Addr: 100, Len: 8, ID: 2, Flags: 0x81}},
		{At: 0, Desc: api.Packed{Addr: 200, Len: 4, ID: 2, Flags: 0x8002}},
	}; e != api.OK || !slices.Equal(q, want) {
		t.Error(q, e)
	}
}

// roomy returns the elements, with one more behind them in the spare capacity.
func roomy[T any](l []T, more T) []T { return append(slices.Clone(l), more)[:len(l)] }

// filled sets all that belongs to a slice to x, its spare capacity too.
func filled[T any](l []T, x T) {
	l = l[:cap(l)]
	for i := range l {
		l[i] = x
	}
}

// separate checks that a function keeps, changes and returns nothing of its
// arguments, which have room, nor of its earlier results.
func separate[T comparable](t *testing.T, build func(ids []int, l []api.Seg) ([]T, api.Errno), other T) {
	t.Helper()
	extra := api.Seg{At: 77, Len: 7, Write: true}
	for _, l := range buffers() {
		ids := scattered(len(l))
		want, _ := build(slices.Clone(ids), slices.Clone(l))
		want = slices.Clone(want)
		argIDs, arg := roomy(ids, 5), roomy(l, extra)
		old, e := build(argIDs, arg)
		if e != api.OK || len(old) == 0 || !slices.Equal(old, want) {
			t.Fatal(l, old, e)
		}
		filled(old, other)
		later, _ := build(argIDs, arg)
		if !slices.Equal(argIDs[:len(ids)+1], append(slices.Clone(ids), 5)) || !slices.Equal(arg[:len(l)+1], append(slices.Clone(l), extra)) {
			t.Fatal("an argument was changed", l)
		}
		filled(argIDs, 9)
		filled(arg, extra)
		if !slices.Equal(later, want) {
			t.Fatal("a result changed", l)
		}
	}
}

// P9.1, P9.2: results share no memory with arguments, nor with other results.
func TestResultsShareNothing(t *testing.T) {
	separate(t, Split, api.Put{At: -7})
	separate(t, func(_ []int, l []api.Seg) ([]byte, api.Errno) { return SplitTable(l) }, 0xEE)
	separate(t, func(_ []int, l []api.Seg) ([]byte, api.Errno) { return PackedTable(l) }, 0xEE)
	separate(t, func(_ []int, l []api.Seg) ([]api.PutPacked, api.Errno) {
		return Packed(api.Pos{At: 60, Wrap: true}, 64, 63, l)
	}, api.PutPacked{At: -7})
}

// follow reads a chain of split descriptors from the first number on.
func follow(t *testing.T, first int, at map[int]api.Desc) []api.Seg {
	t.Helper()
	var l []api.Seg
	for n := first; ; n = int(at[n].Next) {
		d, ok := at[n]
		if !ok || d.Flags&^3 != 0 || len(l) == len(at) {
			t.Fatal(first, at)
		}
		l = append(l, api.Seg{At: d.Addr, Len: d.Len, Write: d.Flags&api.FlagWrite != 0})
		if d.Flags&api.FlagNext == 0 {
			return l
		}
	}
}

// P9.3: who follows a split chain, or reads a table, finds the buffer, and all
// descriptors are of it.
func TestSplitIsTheBuffer(t *testing.T) {
	for _, l := range buffers() {
		ids := scattered(len(l))
		puts, _ := Split(ids, l)
		at := map[int]api.Desc{}
		for n, p := range puts {
			at[p.At] = p.Desc
			if (p.Desc.Flags&api.FlagNext == 0) != (n == len(l)-1) {
				t.Error(l, puts)
			}
		}
		if len(at) != len(l) || !slices.Equal(follow(t, ids[0], at), l) {
			t.Error(l, puts)
		}
		b, _ := SplitTable(l)
		table, e := desc.ReadTable(b)
		at = map[int]api.Desc{}
		for n, d := range table {
			at[n] = d
		}
		if e != api.OK || len(table) != len(l) || !slices.Equal(follow(t, 0, at), l) {
			t.Error(l, table, e)
		}
	}
}

// P9.3: packed descriptors lie one behind the other, are available, and are
// the buffer, in a ring as in a table.
func TestPackedIsTheBuffer(t *testing.T) {
	const size, id = 64, 41
	for _, l := range buffers() {
		for _, p := range places(size) {
			puts, _ := Packed(p, size, id, l)
			var got []api.Seg
			for n, q := range puts {
				d := q.Desc
				last := d.Flags&api.FlagNext == 0
				if q.At != p.At || d.ID != id || last != (n == len(l)-1) || d.Flags&api.FlagTable != 0 {
					t.Fatal(p, l, puts)
				}
				if !desc.Avail(d.Flags, p.Wrap) || desc.Avail(d.Flags, !p.Wrap) || desc.Used(d.Flags, true) || desc.Used(d.Flags, false) {
					t.Fatal(p, l, puts)
				}
				got = append(got, api.Seg{At: d.Addr, Len: d.Len, Write: d.Flags&api.FlagWrite != 0})
				p, _ = serial.Go(p, 1, size)
			}
			if !slices.Equal(got, l) {
				t.Fatal(l, puts)
			}
		}
		b, _ := PackedTable(l)
		var got []api.Seg
		for part := range slices.Chunk(b, 16) {
			d, e := desc.ReadPacked(part)
			if e != api.OK || d.ID != 0 || d.Flags&^api.FlagWrite != 0 {
				t.Error(l, d, e)
			}
			got = append(got, api.Seg{At: d.Addr, Len: d.Len, Write: d.Flags != 0})
		}
		if !slices.Equal(got, l) {
			t.Error(l, got)
		}
	}
}

// P9.3: a table that is announced by its descriptor has exactly its bytes.
func TestOneIsTheTable(t *testing.T) {
	for _, l := range buffers() {
		b, _ := SplitTable(l)
		c, _ := PackedTable(l)
		p, e1 := SplitOne(9, 0x2000, len(l))
		q, e2 := PackedOne(serial.Start(), 16, 9, 0x2000, len(l))
		if e1|e2 != api.OK || int(p.Desc.Len) != len(b) || int(q.Desc.Len) != len(c) {
			t.Error(l, p, q, e1, e2)
		}
		if (p.Desc.Flags|q.Desc.Flags)&(api.FlagNext|api.FlagWrite) != 0 {
			t.Error(l, p, q)
		}
	}
}
