package layout

import (
	"math"
	"testing"

	"dumbwaiter/api"
	"dumbwaiter/gmem"
)

const top = math.MaxUint64

var bools = []bool{false, true}

// splitSizes and packedSizes are small ones and the greatest ones.
var (
	splitSizes  = []int{1, 2, 4, 8, 256, 16384, api.MaxSize}
	packedSizes = []int{1, 2, 3, 4, 5, 7, 100, 32767, api.MaxSize}
)

// badSizes are those of no ring; a split ring has none of notPowers either.
var (
	badSizes  = []int{math.MinInt, -4, -1, 0, api.MaxSize + 1, 2 * api.MaxSize, 65536 + 4, math.MaxInt}
	notPowers = []int{3, 5, 6, 7, 100, 32767}
)

// whats are the elements, and numbers that are of none.
var whats = []int{
	math.MinInt, -1, 0, api.WhatDesc, api.WhatFlags, api.WhatIdx, api.WhatRing, api.WhatEvent, api.UsedFlags,
	api.UsedIdx, api.UsedRing, api.UsedEvent, api.DriverEvent, api.DeviceEvent, 12, math.MaxInt,
}

func sizesOf(packed bool) []int {
	if packed {
		return packedSizes
	}
	return splitSizes
}

func badSizesOf(packed bool) []int {
	if packed {
		return badSizes
	}
	return append(append([]int{}, badSizes...), notPowers...)
}

// lengths are told anew from the chapter, part by part.
func lengths(packed bool, size int) [3]uint64 {
	n := uint64(size)
	if packed {
		return [3]uint64{16 * n, 4, 4}
	}
	return [3]uint64{16 * n, 2 + 2 + 2*n + 2, 2 + 2 + 8*n + 2}
}

func aligns(packed bool) [3]uint64 {
	if packed {
		return [3]uint64{16, 4, 4}
	}
	return [3]uint64{16, 2, 4}
}

func rings(packed bool, size int, at [3]uint64) api.Rings {
	return api.Rings{Packed: packed, Size: size, Desc: at[0], Driver: at[1], Device: at[2]}
}

// apart returns addresses of valid rings, each part far from the others.
func apart() [3]uint64 { return [3]uint64{1 << 20, 2 << 20, 3 << 20} }

// placed returns valid rings.
func placed(t *testing.T, packed bool, size int, base uint64) api.Rings {
	t.Helper()
	r, _, e := Place(packed, size, base)
	if e != api.OK || Check(r) != api.OK {
		t.Fatal(packed, size, base, r, e)
	}
	return r
}

// P4.1: Check, of rings of each size, and of sizes of none.
func TestCheckSize(t *testing.T) {
	for _, packed := range bools {
		for _, size := range sizesOf(packed) {
			if e := Check(rings(packed, size, apart())); e != api.OK {
				t.Error(packed, size, e)
			}
		}
		for _, size := range badSizesOf(packed) {
			if e := Check(rings(packed, size, apart())); e != api.ErrArg {
				t.Error(packed, size, e)
			}
		}
	}
	if e := Check(api.Rings{}); e != api.ErrArg {
		t.Error(e)
	}
}

// P4.1: each part has an alignment of its own.
func TestCheckAligned(t *testing.T) {
	for _, packed := range bools {
		for i, to := range aligns(packed) {
			for off := range uint64(33) {
				at := apart()
				at[i] += off
				want := api.OK
				if off%to != 0 {
					want = api.ErrArg
				}
				if e := Check(rings(packed, 4, at)); e != want {
					t.Error(packed, i, off, e)
				}
			}
		}
	}
}

// P4.1: a part may end at 2^64, and not beyond it.
func TestCheckExtent(t *testing.T) {
	for _, packed := range bools {
		for _, size := range sizesOf(packed) {
			n, to := lengths(packed, size), aligns(packed)
			for i := range 3 {
				at := apart()
				// The last address at which the part still ends in time.
				at[i] = (top - n[i] + 1) / to[i] * to[i]
				if e := Check(rings(packed, size, at)); e != api.OK {
					t.Error(packed, size, i, e)
				}
				at[i] += to[i]
				want := api.ErrArg
				if at[i] == 0 {
					// Only a part as short as its alignment comes round to 0, where it is valid.
					want = api.OK
				}
				if e := Check(rings(packed, size, at)); e != want {
					t.Error(packed, size, i, at, e)
				}
			}
		}
	}
}

// P4.1: no two parts have a byte in common, whichever is the first; they may touch.
func TestCheckOverlap(t *testing.T) {
	for _, packed := range bools {
		for _, size := range sizesOf(packed) {
			n, to := lengths(packed, size), aligns(packed)
			for i := range 3 {
				for j := range 3 {
					if i == j {
						continue
					}
					at := apart()
					at[i] = at[j] + (n[j]+to[i]-1)/to[i]*to[i]
					if e := Check(rings(packed, size, at)); e != api.OK {
						t.Error("beside", packed, size, i, j, e)
					}
					at[i] -= to[i]
					if e := Check(rings(packed, size, at)); e != api.ErrArg {
						t.Error("over", packed, size, i, j, e)
					}
					at[i] = at[j]
					if e := Check(rings(packed, size, at)); e != api.ErrArg {
						t.Error("same", packed, size, i, j, e)
					}
				}
			}
		}
	}
}

// P4.1: Parts looks at the size alone.
func TestParts(t *testing.T) {
	for _, packed := range bools {
		for _, size := range sizesOf(packed) {
			for _, at := range [][3]uint64{apart(), {}, {1, 1, 1}, {top, top, top}} {
				a, b, c := Parts(rings(packed, size, at))
				if ([3]uint64{a, b, c}) != lengths(packed, size) {
					t.Error(packed, size, at, a, b, c)
				}
			}
		}
		for _, size := range badSizesOf(packed) {
			if a, b, c := Parts(rings(packed, size, apart())); a != 0 || b != 0 || c != 0 {
				t.Error(packed, size, a, b, c)
			}
		}
	}
}

// memory returns a memory with these regions.
func memory(t *testing.T, l ...api.Region) *gmem.Mem {
	t.Helper()
	m, e := gmem.New(l)
	if e != api.OK {
		t.Fatal(l, e)
	}
	return m
}

// P4.1: Fits, where each part lacks a byte at either end, in one region or in three.
func TestFits(t *testing.T) {
	for _, packed := range bools {
		n := lengths(packed, 4)
		at := apart()
		r := rings(packed, 4, at)
		exact := []api.Region{{At: at[0], Len: n[0]}, {At: at[1], Len: n[1]}, {At: at[2], Len: n[2]}}
		if e := Fits(memory(t, exact...), r); e != api.OK {
			t.Error(packed, e)
		}
		for i := range exact {
			less := append([]api.Region{}, exact...)
			less[i].Len--
			if e := Fits(memory(t, less...), r); e != api.ErrRange {
				t.Error(packed, i, "last", e)
			}
			less[i].At++
			if e := Fits(memory(t, less...), r); e != api.ErrRange {
				t.Error(packed, i, "first", e)
			}
			without := append(append([]api.Region{}, exact[:i]...), exact[i+1:]...)
			if e := Fits(memory(t, without...), r); e != api.ErrRange {
				t.Error(packed, i, "none", e)
			}
		}
		if e := Fits(memory(t), r); e != api.ErrRange {
			t.Error(packed, e)
		}
	}
}

// P4.1: a part that goes over from one region into the next one does not exist.
func TestFitsOneRegion(t *testing.T) {
	for _, packed := range bools {
		r, n, e := Place(packed, 8, 0)
		if e != api.OK {
			t.Fatal(e)
		}
		if e := Fits(memory(t, api.Region{At: 0, Len: n}), r); e != api.OK {
			t.Error(packed, e)
		}
		for cut := uint64(1); cut < n; cut++ {
			m := memory(t, api.Region{At: 0, Len: cut}, api.Region{At: cut, Len: n - cut})
			want := api.OK
			for i, at := range [3]uint64{r.Desc, r.Driver, r.Device} {
				if cut > at && cut < at+lengths(packed, 8)[i] {
					want = api.ErrRange
				}
			}
			if e := Fits(m, r); e != want {
				t.Error(packed, cut, e)
			}
		}
	}
}

// P4.1: the errors of Fits, in their order.
func TestFitsWrong(t *testing.T) {
	m := memory(t, api.Region{At: 0, Len: 1000})
	copied := *m
	bad, far := api.Rings{Packed: true, Size: 0}, placed(t, true, 4, 5000)
	for _, none := range []*gmem.Mem{nil, {}, &copied} {
		for _, r := range []api.Rings{bad, far, placed(t, true, 4, 0)} {
			if e := Fits(none, r); e != api.ErrNil {
				t.Error(r, e)
			}
		}
	}
	if e := Fits(m, bad); e != api.ErrArg {
		t.Error(e)
	}
	// Beyond memory, and not aligned: what comes first in the chapter is told.
	unaligned := far
	unaligned.Driver++
	if e := Fits(m, unaligned); e != api.ErrArg {
		t.Error(e)
	}
	if e := Fits(m, far); e != api.ErrRange {
		t.Error(e)
	}
}

// element is told anew from the chapter: the number of the part, how far into
// it, how many bytes, and how many there are.
type element struct {
	part   int
	off    uint64
	bytes  int
	number int
}

func elements(packed bool, size int) map[int]element {
	n := uint64(size)
	if packed {
		return map[int]element{
			api.WhatDesc: {0, 0, 16, size}, api.DriverEvent: {1, 0, 4, 1}, api.DeviceEvent: {2, 0, 4, 1},
		}
	}
	return map[int]element{
		api.WhatDesc:  {0, 0, 16, size},
		api.WhatFlags: {1, 0, 2, 1}, api.WhatIdx: {1, 2, 2, 1}, api.WhatRing: {1, 4, 2, size}, api.WhatEvent: {1, 4 + 2*n, 2, 1},
		api.UsedFlags: {2, 0, 2, 1}, api.UsedIdx: {2, 2, 2, 1}, api.UsedRing: {2, 4, 8, size}, api.UsedEvent: {2, 4 + 8*n, 2, 1},
	}
}

// P4.1: Where, for each kind of element, at its first and last index, and beyond.
func TestWhere(t *testing.T) {
	for _, packed := range bools {
		for _, size := range sizesOf(packed) {
			at := apart()
			r := rings(packed, size, at)
			all := elements(packed, size)
			for _, what := range whats {
				x := all[what]
				for _, i := range []int{math.MinInt, -1, 0, 1, 2, size / 2, size - 1, size, size + 1, 1 << 61, math.MaxInt} {
					got, n, e := Where(r, what, i)
					if i < 0 || i >= x.number {
						if got != 0 || n != 0 || e != api.ErrArg {
							t.Error(packed, size, what, i, got, n, e)
						}
						continue
					}
					want := at[x.part] + x.off + uint64(i)*uint64(x.bytes)
					if got != want || n != x.bytes || e != api.OK {
						t.Error(packed, size, what, i, got, n, e)
					}
				}
			}
		}
	}
}

// P4.1: the examples of the chapter.
func TestWhereExamples(t *testing.T) {
	r := placed(t, false, 4, 100)
	if at, n, e := Where(r, api.WhatRing, 3); at != 186 || n != 2 || e != api.OK {
		t.Error(at, n, e)
	}
	if at, n, e := Where(r, api.UsedRing, 1); at != 204 || n != 8 || e != api.OK {
		t.Error(at, n, e)
	}
}

// P4.1: in rings that are not valid no element is anywhere.
func TestWhereNotValid(t *testing.T) {
	for _, packed := range bools {
		good := apart()
		l := []api.Rings{{}, rings(packed, 4, [3]uint64{good[0], good[0], good[2]}),
			rings(packed, 4, [3]uint64{good[0] + 1, good[1], good[2]}),
			rings(packed, 4, [3]uint64{top - 15, good[1], good[2]})}
		for _, size := range badSizesOf(packed) {
			l = append(l, rings(packed, size, good))
		}
		for _, r := range l {
			for _, what := range whats {
				if at, n, e := Where(r, what, 0); at != 0 || n != 0 || e != api.ErrArg {
					t.Error(r, what, at, n, e)
				}
			}
		}
	}
}

// P4.3: the elements fill their parts, each byte being in one element at most.
func TestWhereApart(t *testing.T) {
	for _, packed := range bools {
		for _, size := range []int{1, 2, 4, 8, 256} {
			r := placed(t, packed, size, 1)
			starts, n := [3]uint64{r.Desc, r.Driver, r.Device}, lengths(packed, size)
			owners := map[uint64]int{}
			for what := range 13 {
				for i := range size {
					at, bytes, e := Where(r, what, i)
					if e != api.OK {
						continue
					}
					part := elements(packed, size)[what].part
					if at < starts[part] || at+uint64(bytes) > starts[part]+n[part] {
						t.Error(packed, size, what, i, at, bytes)
					}
					for k := range uint64(bytes) {
						owners[at+k]++
					}
				}
			}
			for at, number := range owners {
				if number != 1 {
					t.Error(packed, size, at, number)
				}
			}
			if uint64(len(owners)) != n[0]+n[1]+n[2] {
				t.Error(packed, size, len(owners))
			}
		}
	}
}

// P4.3: at the very end of the addresses the last element still is where it belongs.
func TestWhereAtEnd(t *testing.T) {
	r := api.Rings{Packed: true, Size: 2, Desc: top - 31, Driver: 4, Device: 0}
	if at, n, e := Where(r, api.WhatDesc, 1); at != top-15 || n != 16 || e != api.OK {
		t.Error(at, n, e)
	}
	r = api.Rings{Size: 1, Desc: 0, Driver: 16, Device: top - 15}
	if at, n, e := Where(r, api.UsedEvent, 0); at != top-3 || n != 2 || e != api.OK {
		t.Error(at, n, e)
	}
	r = api.Rings{Size: 1, Desc: 0, Driver: top - 7, Device: 16}
	if at, n, e := Where(r, api.WhatEvent, 0); at != top-1 || n != 2 || e != api.OK {
		t.Error(at, n, e)
	}
}

// P4.2: the examples of the chapter, and of a packed ring.
func TestPlaceExamples(t *testing.T) {
	r, n, e := Place(false, 4, 100)
	if r != (api.Rings{Size: 4, Desc: 112, Driver: 176, Device: 192}) || n != 130 || e != api.OK {
		t.Error(r, n, e)
	}
	r, n, e = Place(true, 5, 3)
	if r != (api.Rings{Packed: true, Size: 5, Desc: 16, Driver: 96, Device: 100}) || n != 101 || e != api.OK {
		t.Error(r, n, e)
	}
	r, n, e = Place(false, 1, 0)
	if r != (api.Rings{Size: 1, Desc: 0, Driver: 16, Device: 24}) || n != 38 || e != api.OK {
		t.Error(r, n, e)
	}
}

// P4.2, P4.3: what is placed is valid, and each part is at the first possible address.
func TestPlace(t *testing.T) {
	for _, packed := range bools {
		for _, size := range sizesOf(packed) {
			for _, start := range []uint64{0, 4080, 1 << 32, 1 << 63} {
				for base := start; base < start+20; base++ {
					wantPlaced(t, packed, size, base)
				}
			}
		}
	}
}

func wantPlaced(t *testing.T, packed bool, size int, base uint64) {
	t.Helper()
	r, n, e := Place(packed, size, base)
	if e != api.OK || r.Packed != packed || r.Size != size || Check(r) != api.OK {
		t.Error(packed, size, base, r, n, e)
		return
	}
	next, to := base, aligns(packed)
	for i, at := range [3]uint64{r.Desc, r.Driver, r.Device} {
		for next%to[i] != 0 {
			next++
		}
		if at != next {
			t.Error(packed, size, base, i, at, next)
		}
		next += lengths(packed, size)[i]
	}
	if n != next-base {
		t.Error(packed, size, base, n, next-base)
	}
}

// P4.2: rings may end at 2^64; where a byte would be beyond it there are none.
func TestPlaceAtEnd(t *testing.T) {
	for _, packed := range bools {
		for _, size := range sizesOf(packed) {
			_, all, _ := Place(packed, size, 0)
			// The rings begin at multiples of 16, whatever the base is.
			last := (top - all + 1) / 16 * 16
			r, n, e := Place(packed, size, last)
			if e != api.OK || r.Desc != last || n != all || Check(r) != api.OK {
				t.Error(packed, size, r, n, e)
			}
			r, n, e = Place(packed, size, last-15)
			if e != api.OK || r.Desc != last || n != all+15 {
				t.Error(packed, size, r, n, e)
			}
			for off := uint64(1); last+off > last && off <= 3*all; off++ {
				if r, n, e := Place(packed, size, last+off); r != (api.Rings{}) || n != 0 || e != api.ErrArg {
					t.Fatal(packed, size, off, r, n, e)
				}
			}
		}
	}
}

// P4.2: where a part ends at 2^64, or so near to it that the next one can not be
// aligned before it, there is no place for the next one, also not at 0.
func TestPlaceNoneLeft(t *testing.T) {
	for _, c := range []struct {
		packed bool
		size   int
		base   uint64
	}{
		{true, 1, top - 15}, {true, 1, top - 30}, {false, 1, top - 15}, {true, 3, top - 47}, {false, 4, top - 63},
		{false, 4, top - 79}, {true, api.MaxSize, top - 16*api.MaxSize + 1}, {true, 1, top}, {false, 1, top}, {true, 1, top - 14},
	} {
		if r, n, e := Place(c.packed, c.size, c.base); r != (api.Rings{}) || n != 0 || e != api.ErrArg {
			t.Error(c, r, n, e)
		}
	}
	r, n, e := Place(true, 1, top-31)
	if r != (api.Rings{Packed: true, Size: 1, Desc: top - 31, Driver: top - 15, Device: top - 11}) || n != 24 || e != api.OK {
		t.Error(r, n, e)
	}
}

// P4.2: sizes of no ring.
func TestPlaceWrongSize(t *testing.T) {
	for _, packed := range bools {
		for _, size := range badSizesOf(packed) {
			for _, base := range []uint64{0, 100, top} {
				if r, n, e := Place(packed, size, base); r != (api.Rings{}) || n != 0 || e != api.ErrArg {
					t.Error(packed, size, base, r, n, e)
				}
			}
		}
	}
}

// P4.2: Over, byte by byte.
func TestOver(t *testing.T) {
	for _, packed := range bools {
		r := rings(packed, 2, [3]uint64{64, 112, 40})
		if Check(r) != api.OK {
			t.Fatal(r)
		}
		in := map[uint64]bool{}
		for i, at := range [3]uint64{r.Desc, r.Driver, r.Device} {
			for k := range lengths(packed, 2)[i] {
				in[at+k] = true
			}
		}
		for at := range uint64(140) {
			want := false
			for n := range uint64(140) {
				if n > 0 {
					want = want || in[at+n-1]
				}
				if got := Over(r, at, n); got != want {
					t.Fatal(packed, at, n, got)
				}
			}
		}
	}
}

// P4.2: ranges that are long, or that go beyond 2^64, where there are no more bytes.
func TestOverAtEnd(t *testing.T) {
	low := placed(t, true, 1, 0)
	for _, c := range []struct {
		at, n uint64
		want  bool
	}{
		{0, top, true}, {23, top, true}, {24, top, false}, {top, 1, false}, {top, 2, false}, {top, top, false}, {0, 0, false}, {5, 0, false},
	} {
		if got := Over(low, c.at, c.n); got != c.want {
			t.Error("low", c.at, c.n, got)
		}
	}
	high := api.Rings{Packed: true, Size: 1, Desc: top - 15, Driver: top - 19, Device: top - 23}
	for _, c := range []struct {
		at, n uint64
		want  bool
	}{
		{top, 1, true}, {top, top, true}, {top, 0, false}, {top - 15, 0, false}, {0, top, true},
		{0, top - 23, false}, {0, top - 22, true}, {top - 24, 1, false}, {top - 24, 2, true}, {1, top, true},
	} {
		if got := Over(high, c.at, c.n); got != c.want {
			t.Error("high", c.at, c.n, got)
		}
	}
}

// P4.2: rings that are not valid are over nothing.
func TestOverNotValid(t *testing.T) {
	for _, packed := range bools {
		for _, size := range badSizesOf(packed) {
			if Over(rings(packed, size, apart()), 0, top) {
				t.Error(packed, size)
			}
		}
		for _, at := range [][3]uint64{{1, 1024, 2048}, {0, 1024, 1024}, {0, 1025, 2048}, {0, 1024, 2050}, {0, top - 1, 2048}} {
			if r := rings(packed, 4, at); Over(r, 0, top) {
				t.Error(r)
			}
		}
	}
}
