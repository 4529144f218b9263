package seg

import (
	"bytes"
	"math"
	"slices"
	"testing"

	"dumbwaiter/api"
	"dumbwaiter/gmem"
)

const top = math.MaxUint64

var bools = []bool{false, true}

// regions are adjacent ones, a gap, and the end of the addresses.
var regions = []api.Region{{At: 0, Len: 16}, {At: 16, Len: 8}, {At: 32, Len: 8}, {At: top - 7, Len: 8}}

// place is a byte of a buffer: where it is, and of which segment.
type place struct {
	at    uint64
	seg   int
	write bool
}

// read and written return segments of each kind.
func read(at uint64, n uint32) api.Seg    { return api.Seg{At: at, Len: n} }
func written(at uint64, n uint32) api.Seg { return api.Seg{At: at, Len: n, Write: true} }

// many returns n segments of one byte.
func many(n int) []api.Seg {
	var l []api.Seg
	for i := range n {
		l = append(l, api.Seg{At: uint64(i), Len: 1, Write: i >= n/2})
	}
	return l
}

// buffers are valid ones, all of whose segments are within regions.
func buffers() [][]api.Seg {
	return [][]api.Seg{
		nil, {}, {read(3, 1)}, {written(3, 1)}, {read(0, 16)}, {written(16, 8)},
		{read(2, 4), written(8, 3)}, {read(9, 2), read(1, 3), read(34, 1)}, {written(9, 2), written(1, 3), written(34, 1)},
		{read(10, 6), read(16, 2), written(0, 4), written(39, 1), written(20, 4)},
		{read(top-7, 8), written(top, 1)}, {read(top, 1), written(top-7, 8), written(0, 1)},
		{read(4, 5), read(6, 5), written(4, 5), written(6, 5), written(5, 1)},
		many(16), many(1), many(2),
	}
}

// invalid are lists that Check rejects, with its error.
func invalid() map[api.Errno][][]api.Seg {
	return map[api.Errno][][]api.Seg{
		api.ErrLong: {many(65), many(66), many(1000), make([]api.Seg, 65), slices.Repeat([]api.Seg{read(top, 2)}, 65)},
		api.ErrArg: {
			{{}}, {written(1, 0)}, {read(1, 1), read(2, 0)}, {read(1, 0), read(2, 1)}, {read(1, 1), written(2, 0)}, {read(top, 0)},
			make([]api.Seg, 64),
			{read(top, 2)}, {written(top, 2)}, {read(top-6, 8)}, {read(1, 1), written(top-6, 8)}, {read(top, math.MaxUint32)},
			{read(top-math.MaxUint32+2, math.MaxUint32)},
			{written(1, 1), read(2, 1)}, {read(1, 1), written(2, 1), read(3, 1)}, {written(1, 1), written(2, 1), read(3, 1)},
			{written(1, 1), read(2, 1), written(3, 1)},
			{read(0, 1<<31), read(0, 1<<31)}, {read(0, 1<<31), written(0, 1<<31)}, {written(0, 1), written(0, math.MaxUint32)},
			{read(0, math.MaxUint32), read(0, math.MaxUint32)}, {read(0, math.MaxUint32), read(0, 2)},
			slices.Repeat([]api.Seg{read(0, 1<<26)}, 64), slices.Repeat([]api.Seg{written(0, math.MaxUint32)}, 64),
		},
	}
}

// wide are valid buffers at the limits, which no memory has.
func wide() [][]api.Seg {
	return [][]api.Seg{
		many(64), slices.Repeat([]api.Seg{read(7, 1)}, 64), slices.Repeat([]api.Seg{read(7, 1<<26-1)}, 64),
		{read(0, math.MaxUint32)}, {written(top-math.MaxUint32+1, math.MaxUint32)}, {read(top, 1), written(top, 1)},
		{read(0, 1<<31), written(0, 1<<31-1)}, {read(5, 1), written(5, math.MaxUint32-1)},
	}
}

// bytesOf returns the places of the bytes of a buffer, one after the other.
func bytesOf(l []api.Seg) []place {
	var all []place
	for i, s := range l {
		for j := range s.Len {
			all = append(all, place{s.At + uint64(j), i, s.Write})
		}
	}
	return all
}

// segsOf returns the segments of which these are the bytes.
func segsOf(l []place) []api.Seg {
	var segs []api.Seg
	for i, p := range l {
		if i == 0 || p.seg != l[i-1].seg {
			segs = append(segs, api.Seg{At: p.at, Write: p.write})
		}
		segs[len(segs)-1].Len++
	}
	return segs
}

// memory returns a memory of these regions that has no byte twice in a row.
func memory(t *testing.T, l []api.Region) *gmem.Mem {
	t.Helper()
	m, e := gmem.New(l)
	if m == nil || e != api.OK {
		t.Fatal(l, e)
	}
	next := 0
	for _, r := range l {
		for i := range r.Len {
			next++
			if e := m.Store(r.At+i, 1, uint64(next%251)); e != api.OK {
				t.Fatal(e)
			}
		}
	}
	return m
}

// load returns the byte at an address.
func load(t *testing.T, m *gmem.Mem, at uint64) byte {
	t.Helper()
	v, e := m.Load(at, 1)
	if e != api.OK {
		t.Fatal(at, e)
	}
	return byte(v)
}

// addresses returns those of all bytes of the regions.
func addresses(l []api.Region) []uint64 {
	var all []uint64
	for _, r := range l {
		for i := range r.Len {
			all = append(all, r.At+i)
		}
	}
	return all
}

// counted returns the numbers from 200 on, as bytes.
func counted(n int) []byte {
	var b []byte
	for i := range n {
		b = append(b, byte(200+i))
	}
	return b
}

// P5.1: valid buffers, also at each limit.
func TestCheckValid(t *testing.T) {
	for _, l := range append(buffers(), wide()...) {
		if e := Check(l); e != api.OK {
			t.Error(l, e)
		}
	}
}

// P5.1: ErrLong comes before ErrArg.
func TestCheckInvalid(t *testing.T) {
	for want, lists := range invalid() {
		for _, l := range lists {
			if e := Check(l); e != want {
				t.Error(l, e, want)
			}
		}
	}
	// The chapter's example.
	if e := Check([]api.Seg{written(10, 4), read(20, 4)}); e != api.ErrArg {
		t.Error(e)
	}
}

// P5.1: each segment has to be within one region.
func TestIn(t *testing.T) {
	m := memory(t, regions)
	for _, l := range buffers() {
		if e := In(m, l); e != api.OK {
			t.Error(l, e)
		}
	}
	for _, s := range []api.Seg{
		read(0, 17), read(15, 2), written(15, 2), read(0, 24), read(23, 2), read(24, 1), read(31, 1), read(31, 2), read(39, 2),
		read(40, 1), written(top-8, 1), read(top-8, 9), read(1<<32, 1), read(0, math.MaxUint32), written(1<<63, 1<<20),
	} {
		if e := In(m, []api.Seg{s}); e != api.ErrRange {
			t.Error(s, e)
		}
		first := api.Seg{At: 0, Len: 1, Write: false}
		last := api.Seg{At: 0, Len: 1, Write: true}
		if s.Len == math.MaxUint32 {
			continue
		}
		if e := In(m, []api.Seg{first, s, last}); e != api.ErrRange {
			t.Error("middle", s, e)
		}
	}
}

// P5.1: the errors of In, Gather and Scatter, in their order.
func TestErrorsInOrder(t *testing.T) {
	m := memory(t, regions)
	before := m.Image()
	copied := *m
	far := [][]api.Seg{{read(24, 1)}, {written(24, 1)}, {read(0, 1), written(15, 2)}, {read(24, 1), written(0, 1)}}
	lists := invalid()
	lists[api.OK] = buffers()
	lists[api.ErrRange] = far
	for want, l := range lists {
		for _, l := range l {
			for _, none := range []*gmem.Mem{nil, {}, &copied} {
				wantErrors(t, none, l, api.ErrNil)
			}
			if want != api.OK {
				wantErrors(t, m, l, want)
			}
		}
	}
	// Both not valid and beyond memory.
	wantErrors(t, m, []api.Seg{read(24, 1), read(0, 0)}, api.ErrArg)
	wantErrors(t, m, []api.Seg{written(24, 1), read(0, 1)}, api.ErrArg)
	if !bytes.Equal(m.Image(), before) {
		t.Error("changed")
	}
}

// wantErrors checks that the error is that one, and that nothing comes with it.
func wantErrors(t *testing.T, m *gmem.Mem, l []api.Seg, want api.Errno) {
	t.Helper()
	if e := In(m, l); e != want {
		t.Error("In", l, e, want)
	}
	if b, e := Gather(m, l); len(b) != 0 || e != want {
		t.Error("Gather", l, b, e, want)
	}
	if n, e := Scatter(m, l, []byte("abcdef")); n != 0 || e != want {
		t.Error("Scatter", l, n, e, want)
	}
}

// P5.1: the numbers of bytes.
func TestTotal(t *testing.T) {
	for _, l := range buffers() {
		var n [2]uint64
		for _, p := range bytesOf(l) {
			if p.write {
				n[1]++
			} else {
				n[0]++
			}
		}
		if r, w := Total(l); r != n[0] || w != n[1] {
			t.Error(l, r, w)
		}
	}
	for _, c := range []struct {
		l    []api.Seg
		r, w uint64
	}{
		{many(64), 32, 32}, {[]api.Seg{read(0, math.MaxUint32)}, math.MaxUint32, 0}, {[]api.Seg{written(0, math.MaxUint32)}, 0, math.MaxUint32},
		{[]api.Seg{read(0, 1<<31), written(0, 1<<30), written(0, 1<<30-1)}, 1 << 31, 1<<31 - 1},
	} {
		if r, w := Total(c.l); r != c.r || w != c.w {
			t.Error(c.l, r, w)
		}
	}
}

// P5.1: the readable bytes are those of the segments that are read, in order;
// a byte may be in several.
func TestGather(t *testing.T) {
	m := memory(t, regions)
	before := m.Image()
	for _, l := range buffers() {
		var want []byte
		for _, p := range bytesOf(l) {
			if !p.write {
				want = append(want, load(t, m, p.at))
			}
		}
		if b, e := Gather(m, l); !bytes.Equal(b, want) || e != api.OK {
			t.Error(l, b, want, e)
		}
	}
	if !bytes.Equal(m.Image(), before) {
		t.Error("changed")
	}
}

// P5.1: bytes that could not be read are not passed over.
func TestJoinShort(t *testing.T) {
	m := memory(t, regions)
	if b, e := join(m, []api.Seg{read(0, 2), read(24, 1), read(2, 2)}, 5); len(b) != 0 || e != api.ErrRange {
		t.Error(b, e)
	}
	if b, e := join(m, []api.Seg{read(0, 2), read(16, 1)}, 3); !bytes.Equal(b, []byte{1, 2, 17}) || e != api.OK {
		t.Error(b, e)
	}
}

// P5.1, P5.3: as many bytes as there are writable ones are written, from the
// first on; the rest of the memory is as it was.
func TestScatter(t *testing.T) {
	for _, l := range buffers() {
		_, writable := Total(l)
		for n := range int(writable) + 4 {
			m := memory(t, regions)
			want := map[uint64]byte{}
			for _, at := range addresses(regions) {
				want[at] = load(t, m, at)
			}
			b, i := counted(n), 0
			for _, p := range bytesOf(l) {
				if p.write && i < n {
					want[p.at] = b[i]
					i++
				}
			}
			if k, e := Scatter(m, l, b); k != i || e != api.OK {
				t.Fatal(l, n, k, i, e)
			}
			for _, at := range addresses(regions) {
				if load(t, m, at) != want[at] {
					t.Fatal(l, n, at)
				}
			}
		}
	}
}

// P5.1: no bytes are none that are written.
func TestScatterNothing(t *testing.T) {
	m := memory(t, regions)
	before := m.Image()
	for _, l := range buffers() {
		for _, b := range [][]byte{nil, {}} {
			if n, e := Scatter(m, l, b); n != 0 || e != api.OK {
				t.Error(l, n, e)
			}
		}
	}
	if !bytes.Equal(m.Image(), before) {
		t.Error("changed")
	}
}

// P5.3: what was scattered is gathered from the same bytes.
func TestScatteredIsGathered(t *testing.T) {
	for _, l := range [][]api.Seg{
		{written(0, 1)}, {written(3, 5), written(16, 8), written(32, 2)}, {read(0, 16), written(top-7, 8), written(1, 2), written(16, 1)}, many(16), many(15),
	} {
		m := memory(t, regions)
		to := Part(l, true)
		var from []api.Seg
		for _, s := range to {
			from = append(from, read(s.At, s.Len))
		}
		_, writable := Total(l)
		b := counted(int(writable))
		if n, e := Scatter(m, l, b); n != len(b) || e != api.OK {
			t.Error(l, n, e)
		}
		if got, e := Gather(m, from); !bytes.Equal(got, b) || e != api.OK {
			t.Error(l, got, b, e)
		}
	}
}

// P5.1: the greatest buffer in the greatest memory.
func TestGreatest(t *testing.T) {
	m := memory(t, []api.Region{{At: top - api.MaxMem + 1, Len: api.MaxMem}})
	l := slices.Repeat([]api.Seg{read(top-api.MaxMem+1, api.MaxMem)}, 8)
	want := bytes.Repeat(m.Image(), 8)
	if b, e := Gather(m, l); !bytes.Equal(b, want) || e != api.OK {
		t.Error(len(b), e)
	}
	b := bytes.Repeat([]byte{7}, api.MaxMem+5)
	if n, e := Scatter(m, []api.Seg{written(top-api.MaxMem+1, api.MaxMem)}, b); n != api.MaxMem || e != api.OK || !bytes.Equal(m.Image(), b[5:]) {
		t.Error(n, e)
	}
}

// P5.2: the segments of each kind, in order.
func TestPart(t *testing.T) {
	for _, l := range append(buffers(), wide()...) {
		for _, write := range bools {
			var want []api.Seg
			for _, s := range l {
				if s.Write == write {
					want = append(want, s)
				}
			}
			if p := Part(l, write); !slices.Equal(p, want) {
				t.Error(l, write, p)
			}
		}
	}
}

// P5.2: the chapter's example.
func TestCutExample(t *testing.T) {
	if c := Cut([]api.Seg{read(10, 4), read(50, 6)}, 2, 5); !slices.Equal(c, []api.Seg{read(12, 2), read(50, 3)}) {
		t.Error(c)
	}
}

// P5.2, P5.3: every range of every buffer, counted byte by byte; what is beyond
// the end is not there.
func TestCut(t *testing.T) {
	for _, l := range buffers() {
		all := bytesOf(l)
		for from := range len(all) + 3 {
			for n := range len(all) + 3 {
				first := min(from, len(all))
				end := min(from+n, len(all))
				if c := Cut(l, uint64(from), uint64(n)); !slices.Equal(c, segsOf(all[first:end])) {
					t.Fatal(l, from, n, c)
				}
			}
		}
	}
}

// P5.3: two consecutive ranges are the whole, byte by byte.
func TestCutTwice(t *testing.T) {
	for _, l := range buffers() {
		end := uint64(len(bytesOf(l)))
		for from := range end + 1 {
			for n := range end - from + 2 {
				for k := range n + 1 {
					two := append(bytesOf(Cut(l, from, k)), bytesOf(Cut(l, from+k, n-k))...)
					whole := bytesOf(Cut(l, from, n))
					if !slices.EqualFunc(two, whole, func(a, b place) bool { return a.at == b.at && a.write == b.write }) {
						t.Fatal(l, from, n, k)
					}
				}
			}
		}
	}
}

// P5.2: numbers that would go round, and segments as long as they can be.
func TestCutFar(t *testing.T) {
	const most = math.MaxUint32
	small := []api.Seg{read(10, 4), written(top-5, 6)}
	for _, c := range []struct {
		l       []api.Seg
		from, n uint64
		want    []api.Seg
	}{
		{small, 0, top, small},
		{small, 3, top, []api.Seg{read(13, 1), written(top-5, 6)}},
		{small, 3, top - 2, []api.Seg{read(13, 1), written(top-5, 6)}},
		{small, 9, top, []api.Seg{written(top, 1)}},
		{small, 9, 1 << 32, []api.Seg{written(top, 1)}},
		{small, 10, top, nil},
		{small, top, top, nil},
		{small, top, 1, nil},
		{small, 1 << 32, 1, nil},
		{small, 1<<32 + 1, 1, nil},
		{small, top - 3, 8, nil},
		{small, 1, 1 << 32, []api.Seg{read(11, 3), written(top-5, 6)}},
		{[]api.Seg{read(5, most)}, 0, top, []api.Seg{read(5, most)}},
		{[]api.Seg{read(5, most)}, 0, most - 1, []api.Seg{read(5, most-1)}},
		{[]api.Seg{read(5, most)}, most - 1, 2, []api.Seg{read(5+most-1, 1)}},
		{[]api.Seg{written(top-most+1, most)}, most - 1, 1, []api.Seg{written(top, 1)}},
		{[]api.Seg{read(1<<40, 1<<31), written(1<<41, 1<<31-1)}, 1<<31 - 1, 2, []api.Seg{read(1<<40+1<<31-1, 1), written(1<<41, 1)}},
		{many(64), 31, 2, []api.Seg{read(31, 1), written(32, 1)}},
		{many(64), 63, 9, []api.Seg{written(63, 1)}},
	} {
		if got := Cut(c.l, c.from, c.n); !slices.Equal(got, c.want) {
			t.Error(c.l, c.from, c.n, got)
		}
	}
}

// P5.1, P5.2: an invalid buffer has no bytes and no parts.
func TestInvalidHasNothing(t *testing.T) {
	for _, lists := range invalid() {
		for _, l := range lists {
			if r, w := Total(l); r != 0 || w != 0 {
				t.Error(l, r, w)
			}
			for _, write := range bools {
				if p := Part(l, write); len(p) != 0 {
					t.Error(l, write, p)
				}
			}
			for _, n := range []uint64{0, 1, 2, top} {
				if c := Cut(l, 0, n); len(c) != 0 {
					t.Error(l, n, c)
				}
				if c := Cut(l, 1, n); len(c) != 0 {
					t.Error(l, n, c)
				}
			}
		}
	}
}

// P5.2: lists are the same if all fields of all segments are, in order, also
// those that are not valid.
func TestSame(t *testing.T) {
	lists := [][]api.Seg{
		{}, {{}}, {read(1, 2)}, {written(1, 2)}, {read(2, 2)}, {read(1, 3)}, {read(1+1<<32, 2)}, {read(1, 2), read(1, 2)},
		{read(1, 2), written(1, 2)}, {written(1, 2), read(1, 2)}, {read(1, 1), read(2, 1)}, {read(2, 1), read(1, 1)},
		many(64), many(65), slices.Concat(many(64), []api.Seg{{}}), {read(top, 2)},
	}
	for i, a := range lists {
		for j, b := range lists {
			if s := Same(a, slices.Clone(b)); s != (i == j) {
				t.Error(a, b, s)
			}
		}
	}
	if !Same(nil, nil) || !Same(nil, []api.Seg{}) || !Same([]api.Seg{}, nil) || Same(nil, []api.Seg{{}}) || Same([]api.Seg{{}}, nil) {
		t.Error("nothing")
	}
}

// P5.1, P5.2: arguments are as they were, and what lies behind their end is
// neither read nor written nor returned.
func TestArguments(t *testing.T) {
	room := []api.Seg{read(1, 4), read(8, 4), written(16, 4), written(0, 0), read(9, 9)}
	kept := slices.Clone(room)
	l := room[:3]
	b := slices.Repeat([]byte{9}, 8)
	m := memory(t, regions)
	if Check(l) != api.OK || In(m, l) != api.OK || !Same(l, kept[:3]) {
		t.Error("more was read")
	}
	if r, w := Total(l); r != 8 || w != 4 {
		t.Error(r, w)
	}
	for from := range uint64(13) {
		spoil(Cut(l, from, 5), api.Seg{At: 77})
		spoil(Cut(l, from, top), api.Seg{At: 77})
	}
	for _, write := range bools {
		spoil(Part(l, write), api.Seg{At: 77})
	}
	got, e := Gather(m, l)
	if len(got) != 8 || e != api.OK {
		t.Error(got, e)
	}
	if n, e := Scatter(m, l, b[:3]); n != 3 || e != api.OK || load(t, m, 18) != 9 || load(t, m, 19) != 20 {
		t.Error(n, e)
	}
	if !slices.Equal(room, kept) || !bytes.Equal(b, slices.Repeat([]byte{9}, 8)) {
		t.Error(room, b)
	}
}

// P5.1: what was gathered is not the memory, and what is scattered is not kept.
func TestNothingShared(t *testing.T) {
	m := memory(t, regions)
	before := m.Image()
	l := []api.Seg{read(1, 4), written(16, 4)}
	got, _ := Gather(m, l)
	again, _ := Gather(m, l)
	spoil(got, 99)
	if !bytes.Equal(m.Image(), before) || !bytes.Equal(again, []byte{2, 3, 4, 5}) {
		t.Error(again)
	}
	b := []byte{50, 51, 52, 53}
	if n, e := Scatter(m, l, b); n != 4 || e != api.OK {
		t.Error(n, e)
	}
	spoil(b, 99)
	if load(t, m, 16) != 50 || load(t, m, 19) != 53 {
		t.Error("kept")
	}
	x, y := Cut(l, 0, 6), Cut(l, 0, 6)
	spoil(x, api.Seg{})
	if !slices.Equal(y, []api.Seg{read(1, 4), written(16, 2)}) {
		t.Error(y)
	}
}

// spoil overwrites a result, also its spare capacity.
func spoil[T any](l []T, with T) {
	l = l[:cap(l)]
	for i := range l {
		l[i] = with
	}
}
