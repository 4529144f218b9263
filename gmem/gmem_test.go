package gmem

import (
	"bytes"
	"math"
	"slices"
	"testing"

	"dumbwaiter/api"
)

// example is the memory of the chapter's examples: two regions that are adjacent.
var example = []api.Region{{At: 100, Len: 8}, {At: 108, Len: 4}}

// mixed has regions at both ends of the addresses, adjacent ones, one of a
// single byte, and gaps.
var mixed = []api.Region{
	{At: 0, Len: 5}, {At: 5, Len: 3}, {At: 9, Len: 1}, {At: 20, Len: 16}, {At: 36, Len: 8}, {At: math.MaxUint64 - 9, Len: 10},
}

func fresh(t *testing.T, l []api.Region) *Mem {
	t.Helper()
	m, e := New(l)
	if m == nil || e != api.OK {
		t.Fatal(l, m, e)
	}
	return m
}

// filled returns a memory that has no byte twice in a row, and none that is 0.
func filled(t *testing.T, l []api.Region) *Mem {
	t.Helper()
	m := fresh(t, l)
	next := 0
	for _, r := range l {
		for i := range r.Len {
			if e := m.Store(r.At+i, 1, uint64(next%255+1)); e != api.OK {
				t.Fatal(r, i, e)
			}
			next++
		}
	}
	return m
}

// where returns the place in the image of n bytes at an address, counted byte
// by byte, and -1 if they are not all in one region.
func where(l []api.Region, at, n uint64) int {
	start := 0
	for _, r := range l {
		for i := range r.Len {
			if r.At+i == at && n >= 1 && n <= r.Len-i {
				return start + int(i)
			}
		}
		start += int(r.Len)
	}
	return -1
}

// around returns addresses in and beside the regions.
func around(l []api.Region) []uint64 {
	var out []uint64
	for _, r := range l {
		for i := range r.Len + 4 {
			out = append(out, r.At+i-2)
		}
	}
	out = append(out, 0, 1, math.MaxUint64, math.MaxUint64-1, 1<<63, 1<<32)
	slices.Sort(out)
	return slices.Compact(out)
}

// single returns n regions of one byte.
func single(n int) []api.Region {
	var l []api.Region
	for i := range n {
		l = append(l, api.Region{At: uint64(2 * i), Len: 1})
	}
	return l
}

// P2.1: Check, and New of what it lets pass.
func TestValidRegions(t *testing.T) {
	for _, l := range [][]api.Region{
		nil, {}, {{At: 0, Len: 1}}, {{At: math.MaxUint64, Len: 1}}, {{At: 0, Len: api.MaxMem}},
		{{At: math.MaxUint64 - api.MaxMem + 1, Len: api.MaxMem}},
		{{At: 0, Len: api.MaxMem - 1}, {At: 1 << 40, Len: 1}},
		{{At: 0, Len: 1}, {At: 1, Len: api.MaxMem - 1}},
		single(api.MaxRegions), example, mixed,
	} {
		if e := Check(l); e != api.OK {
			t.Error(l, e)
		}
		m := fresh(t, l)
		if !slices.Equal(m.Regions(), l) {
			t.Error(l, m.Regions())
		}
		total := 0
		for _, r := range l {
			total += int(r.Len)
		}
		if b := m.Image(); !bytes.Equal(b, make([]byte, total)) {
			t.Error(l, "not", total, "zeros")
		}
	}
}

// P2.1: ErrArg, and no memory.
func TestWrongRegions(t *testing.T) {
	for _, l := range [][]api.Region{
		{{}}, {{At: 1}}, {{At: math.MaxUint64}}, {{At: 0, Len: 1}, {At: 5}}, {{At: 5}, {At: 6, Len: 1}},
		{{At: 5, Len: 1}, {At: 4, Len: 1}}, {{At: 5, Len: 1}, {At: 5, Len: 1}}, {{At: 5, Len: 1}, {At: 0, Len: 1}},
		{{At: 5, Len: 2}, {At: 6, Len: 1}}, {{At: 5, Len: 3}, {At: 4, Len: 9}}, {{At: 5, Len: 9}, {At: 6, Len: 1}},
		{{At: 0, Len: 1}, {At: 9, Len: 2}, {At: 10, Len: 1}},
		{{At: math.MaxUint64, Len: 2}}, {{At: math.MaxUint64 - 9, Len: 11}}, {{At: 1, Len: math.MaxUint64}},
		{{At: math.MaxUint64, Len: 1}, {At: 0, Len: 1}},
		{{At: 0, Len: api.MaxMem + 1}}, {{At: 0, Len: math.MaxUint64}}, {{At: 0, Len: 1 << 63}},
		{{At: 0, Len: api.MaxMem}, {At: 1 << 30, Len: 1}}, {{At: 0, Len: 1}, {At: 1, Len: api.MaxMem}},
		{{At: 0, Len: 2}, {At: 2, Len: math.MaxUint64 - 1}},
		{{At: 0, Len: api.MaxMem / 2}, {At: 1 << 30, Len: api.MaxMem / 2}, {At: 1 << 40, Len: 1}},
		single(api.MaxRegions + 1), single(100),
	} {
		if e := Check(l); e != api.ErrArg {
			t.Error(l, e)
		}
		if m, e := New(l); m != nil || e != api.ErrArg {
			t.Error(l, m, e)
		}
	}
}

// P2.2: the chapter's examples.
func TestExamples(t *testing.T) {
	m := fresh(t, example)
	if e := m.Store(102, 4, 1); e != api.OK {
		t.Error(e)
	}
	if v, e := m.Load(102, 2); v != 1 || e != api.OK {
		t.Error(v, e)
	}
	if v, e := m.Load(106, 4); v != 0 || e != api.ErrRange {
		t.Error(v, e)
	}
	if m.Has(math.MaxUint64, 2) {
		t.Error("beyond 2^64")
	}
}

// P2.2: words are little-endian, and only their low bytes are stored.
func TestWords(t *testing.T) {
	const v = 0x8877665544332211
	for _, c := range []struct {
		bytes int
		want  uint64
		image []byte
	}{
		{1, 0x11, []byte{0, 0, 0x11, 0, 0, 0, 0, 0, 0, 0, 0, 0}},
		{2, 0x2211, []byte{0, 0, 0x11, 0x22, 0, 0, 0, 0, 0, 0, 0, 0}},
		{4, 0x44332211, []byte{0, 0, 0x11, 0x22, 0x33, 0x44, 0, 0, 0, 0, 0, 0}},
		{8, v, []byte{0, 0, 0x11, 0x22, 0x33, 0x44, 0x55, 0x66, 0x77, 0x88, 0, 0}},
	} {
		m := fresh(t, []api.Region{{At: 98, Len: 12}})
		if e := m.Store(100, c.bytes, v); e != api.OK || !bytes.Equal(m.Image(), c.image) {
			t.Error(c.bytes, e, m.Image())
		}
		if got, e := m.Load(100, c.bytes); got != c.want || e != api.OK {
			t.Errorf("%d: %x %v", c.bytes, got, e)
		}
		if e := m.Store(100, c.bytes, math.MaxUint64); e != api.OK {
			t.Error(e)
		}
		if got, e := m.Load(100, c.bytes); got != math.MaxUint64>>(64-8*c.bytes) || e != api.OK {
			t.Errorf("%d: %x %v", c.bytes, got, e)
		}
	}
}

// P2.2, P2.3: Load and Store at each address in and beside the regions, against the image.
func TestLoadAndStoreEverywhere(t *testing.T) {
	for _, l := range [][]api.Region{nil, example, mixed, {{At: 3, Len: 1}}, {{At: 0, Len: 9}}} {
		for _, at := range around(l) {
			for _, n := range []int{1, 2, 4, 8} {
				m := filled(t, l)
				image := m.Image()
				place := where(l, at, uint64(n))
				v, e := m.Load(at, n)
				if place < 0 {
					if v != 0 || e != api.ErrRange {
						t.Error(l, at, n, v, e)
					}
				} else if want := valueOf(image[place : place+n]); v != want || e != api.OK {
					t.Error(l, at, n, v, want, e)
				}
				if !bytes.Equal(m.Image(), image) {
					t.Error(l, at, n, "Load changed the memory")
				}
				if e := m.Store(at, n, 0xf8f7f6f5f4f3f2f1); (e != api.OK || place < 0) && (e != api.ErrRange || place >= 0) {
					t.Error(l, at, n, e)
				}
				if place >= 0 {
					copy(image[place:], []byte{0xf1, 0xf2, 0xf3, 0xf4, 0xf5, 0xf6, 0xf7, 0xf8}[:n])
				}
				if !bytes.Equal(m.Image(), image) {
					t.Error(l, at, n, m.Image(), image)
				}
			}
		}
	}
}

// valueOf counts the value of little-endian bytes from the last one on.
func valueOf(b []byte) uint64 {
	v := uint64(0)
	for _, x := range slices.Backward(b) {
		v = v*256 + uint64(x)
	}
	return v
}

// P2.2: a number of bytes that no word has is ErrArg, before the range is looked at.
func TestWrongWords(t *testing.T) {
	m := filled(t, mixed)
	image := m.Image()
	for _, n := range []int{math.MinInt, -8, -1, 0, 3, 5, 6, 7, 9, 16, 1 << 32, 1<<32 + 1, math.MaxInt} {
		for _, at := range []uint64{20, 19, 1000, math.MaxUint64} {
			if v, e := m.Load(at, n); v != 0 || e != api.ErrArg {
				t.Error(at, n, v, e)
			}
			if e := m.Store(at, n, 1); e != api.ErrArg {
				t.Error(at, n, e)
			}
		}
	}
	if !bytes.Equal(m.Image(), image) {
		t.Error(m.Image())
	}
}

// P2.2, P2.3: Read, Write and Has at each address in and beside the regions, against the image.
func TestReadAndWriteEverywhere(t *testing.T) {
	for _, l := range [][]api.Region{nil, example, mixed, {{At: 3, Len: 1}}, {{At: 0, Len: 9}}} {
		for _, at := range around(l) {
			for n := 1; n <= 18; n++ {
				m := filled(t, l)
				image := m.Image()
				place := where(l, at, uint64(n))
				if m.Has(at, uint64(n)) != (place >= 0) {
					t.Error(l, at, n, "Has")
				}
				b, e := m.Read(at, n)
				if place < 0 {
					if b != nil || e != api.ErrRange {
						t.Error(l, at, n, b, e)
					}
				} else if !bytes.Equal(b, image[place:place+n]) || e != api.OK {
					t.Error(l, at, n, b, e)
				}
				in := bytes.Repeat([]byte{0xff}, n)
				if e := m.Write(at, in); (e != api.OK || place < 0) && (e != api.ErrRange || place >= 0) {
					t.Error(l, at, n, e)
				}
				if place >= 0 {
					copy(image[place:], in)
				}
				if !bytes.Equal(m.Image(), image) {
					t.Error(l, at, n, m.Image(), image)
				}
			}
		}
	}
}

// P2.2: no bytes are nothing to Read and to Write, wherever, and never exist.
func TestNoBytes(t *testing.T) {
	m := filled(t, mixed)
	image := m.Image()
	for _, at := range around(mixed) {
		if b, e := m.Read(at, 0); len(b) != 0 || e != api.OK {
			t.Error(at, b, e)
		}
		if e := m.Write(at, nil); e != api.OK {
			t.Error(at, e)
		}
		if e := m.Write(at, []byte{}); e != api.OK {
			t.Error(at, e)
		}
		if m.Has(at, 0) {
			t.Error(at)
		}
	}
	if !bytes.Equal(m.Image(), image) {
		t.Error(m.Image())
	}
}

// P2.2: numbers of bytes below 0 are ErrArg, wherever, and too great ones ErrRange.
func TestWrongNumbers(t *testing.T) {
	m := filled(t, mixed)
	for _, at := range around(mixed) {
		for _, n := range []int{math.MinInt, math.MinInt + 1, -8, -1} {
			if b, e := m.Read(at, n); b != nil || e != api.ErrArg {
				t.Error(at, n, b, e)
			}
		}
		for _, n := range []int{17, api.MaxMem, 1 << 32, 1<<32 + 1, math.MaxInt} {
			if b, e := m.Read(at, n); b != nil || e != api.ErrRange {
				t.Error(at, n, b, e)
			}
		}
		for _, n := range []uint64{17, 1 << 32, 1<<32 + 1, 1 << 63, math.MaxUint64 - at, -at, math.MaxUint64 - 1, math.MaxUint64} {
			if m.Has(at, n) != (where(mixed, at, n) >= 0) {
				t.Error(at, n)
			}
		}
	}
	if m.Write(0, make([]byte, api.MaxMem+1)) != api.ErrRange || m.Write(math.MaxUint64, make([]byte, 2)) != api.ErrRange {
		t.Error("too many bytes written")
	}
}

// P2.2: a memory that New did not return is ErrNil, before all else, or nothing.
func TestInvalidMemory(t *testing.T) {
	m := filled(t, mixed)
	image := m.Image()
	twin := *m
	for _, bad := range []*Mem{nil, {}, new(Mem), &twin} {
		for _, n := range []int{-1, 0, 1, 3, 8, 1000} {
			if v, e := bad.Load(20, n); v != 0 || e != api.ErrNil {
				t.Error(n, v, e)
			}
			if e := bad.Store(20, n, 1); e != api.ErrNil {
				t.Error(n, e)
			}
			if b, e := bad.Read(20, n); b != nil || e != api.ErrNil {
				t.Error(n, b, e)
			}
			if e := bad.Write(20, make([]byte, max(n, 0))); e != api.ErrNil {
				t.Error(n, e)
			}
		}
		if bad.Has(20, 1) || bad.Regions() != nil || bad.Image() != nil {
			t.Error("an invalid memory has something")
		}
	}
	if !bytes.Equal(m.Image(), image) {
		t.Error("a copy changed the memory")
	}
}

// P2.2: a memory without regions is valid, and has no bytes.
func TestNoRegions(t *testing.T) {
	m := fresh(t, nil)
	if _, e := m.Load(0, 1); e != api.ErrRange {
		t.Error(e)
	}
	if e := m.Store(0, 8, 1); e != api.ErrRange {
		t.Error(e)
	}
	if _, e := m.Read(0, 1); e != api.ErrRange {
		t.Error(e)
	}
	if e := m.Write(0, []byte{1}); e != api.ErrRange {
		t.Error(e)
	}
	if m.Has(0, 1) || len(m.Regions()) != 0 || len(m.Image()) != 0 {
		t.Error("something in nothing")
	}
}

// P2.1, P2.2: results are new memory, and arguments are neither kept nor changed.
func TestNothingShared(t *testing.T) {
	l := append(slices.Clone(example), api.Region{At: 500, Len: 1})[:2]
	m := fresh(t, l)
	if !slices.Equal(l[:3], []api.Region{example[0], example[1], {At: 500, Len: 1}}) {
		t.Error("New changed", l[:3])
	}
	l[0] = api.Region{At: 1, Len: 1}
	in := []byte{1, 2, 3, 4, 5}
	if e := m.Write(100, in[:4]); e != api.OK || !bytes.Equal(in, []byte{1, 2, 3, 4, 5}) {
		t.Error(e, in)
	}
	in[0] = 99
	want := []byte{1, 2, 3, 4, 0, 0, 0, 0, 0, 0, 0, 0}
	read, _ := m.Read(100, 4)
	image, regions := m.Image(), m.Regions()
	clear(read[:cap(read)])
	clear(image[:cap(image)])
	clear(regions[:cap(regions)])
	if got, e := m.Read(100, 4); !bytes.Equal(got, want[:4]) || e != api.OK {
		t.Error(got, e)
	}
	if !bytes.Equal(m.Image(), want) || !slices.Equal(m.Regions(), example) {
		t.Error(m.Image(), m.Regions())
	}
}

// P2.3: memories have no bytes in common, not even those of the same regions.
func TestMemoriesAreApart(t *testing.T) {
	a, b := fresh(t, mixed), fresh(t, mixed)
	if e := a.Store(20, 8, math.MaxUint64); e != api.OK {
		t.Error(e)
	}
	if v, e := b.Load(20, 8); v != 0 || e != api.OK {
		t.Error(v, e)
	}
}

// P2.3: after a long row of accesses, right and wrong ones, each byte is the last one that was stored there.
func TestLastStored(t *testing.T) {
	m := fresh(t, mixed)
	addresses := around(mixed)
	sizes := []int{1, 2, 4, 8, 3}
	last := map[uint64]byte{}
	state := uint64(1)
	next := func(n int) int {
		state = state*6364136223846793005 + 1442695040888963407
		return int(state >> 33 % uint64(n))
	}
	for range 20000 {
		at, n, v := addresses[next(len(addresses))], sizes[next(len(sizes))], uint64(next(1<<30))*0x100000001
		word := n != 3
		row := make([]byte, n)
		for i := range row {
			row[i] = byte(v >> (8 * i))
		}
		e := api.OK
		if word {
			e = m.Store(at, n, v)
		} else {
			e = m.Write(at, row)
		}
		if (e == api.OK) != (where(mixed, at, uint64(n)) >= 0) {
			t.Fatal(at, n, e)
		}
		if e != api.OK {
			continue
		}
		for i, x := range row {
			last[at+uint64(i)] = x
		}
	}
	for _, at := range addresses {
		if where(mixed, at, 1) < 0 {
			continue
		}
		if v, e := m.Load(at, 1); byte(v) != last[at] || e != api.OK {
			t.Error(at, v, last[at], e)
		}
		for n := range 17 {
			b, e := m.Read(at, n)
			for i, x := range b {
				if x != last[at+uint64(i)] {
					t.Error(at, n, i, b)
				}
			}
			if e == api.OK && len(b) != n {
				t.Error(at, n, b)
			}
		}
	}
}

// P2.1, P2.2: the greatest memory, to its last byte.
func TestGreatestMemory(t *testing.T) {
	var l []api.Region
	const each = api.MaxMem / api.MaxRegions
	for i := range uint64(api.MaxRegions) {
		l = append(l, api.Region{At: i << 40, Len: each})
	}
	m := fresh(t, l)
	for i, r := range l {
		if e := m.Store(r.At+each-8, 8, uint64(i+1)<<56|uint64(i+1)); e != api.OK {
			t.Error(i, e)
		}
		if e := m.Store(r.At+each-7, 8, 1); e != api.ErrRange {
			t.Error(i, e)
		}
	}
	b := m.Image()
	if len(b) != api.MaxMem {
		t.Fatal(len(b))
	}
	for i := range l {
		end := (i + 1) * each
		if b[end-1] != byte(i+1) || b[end-8] != byte(i+1) || b[end-9] != 0 {
			t.Error(i, b[end-9:end])
		}
		whole, e := m.Read(l[i].At, each)
		if !bytes.Equal(whole, b[end-each:end]) || e != api.OK {
			t.Error(i, e)
		}
	}
}
