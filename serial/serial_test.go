package serial

import (
	"math"
	"testing"

	"dumbwaiter/api"
)

// sizes are small ones, odd ones, and the greatest ones, at which 16 bits are only just enough.
var sizes = []int{1, 2, 3, 4, 5, 7, 8, 100, 32767, api.MaxSize}

var badSizes = []int{math.MinInt, -1, 0, api.MaxSize + 1, 65536, math.MaxInt}

// round returns all positions of a small ring, in the order in which they are passed from the start.
func round(size int) []api.Pos {
	var l []api.Pos
	for i := range 2 * size {
		l = append(l, api.Pos{At: i % size, Wrap: i < size})
	}
	return l
}

// sample returns positions of a ring of any size, its edges among them.
func sample(size int) []api.Pos {
	if size <= 8 {
		return round(size)
	}
	var l []api.Pos
	for _, at := range []int{0, 1, 2, size / 2, size - 2, size - 1} {
		l = append(l, api.Pos{At: at, Wrap: true}, api.Pos{At: at})
	}
	return l
}

// moves returns numbers by which a position of a ring may be advanced.
func moves(size int) []int {
	if size > 8 {
		return []int{0, 1, 2, size / 2, size - 1, size}
	}
	var l []int
	for by := range size + 1 {
		l = append(l, by)
	}
	return l
}

// badPositions are outside of a ring of that size.
func badPositions(size int) []api.Pos {
	return []api.Pos{{At: -1}, {At: size, Wrap: true}, {At: math.MinInt}, {At: math.MaxInt, Wrap: true}}
}

// order tells positions as numbers from 0 to 2 * size - 1, by the way that they are passed.
func order(p api.Pos, size int) int {
	if p.Wrap {
		return p.At
	}
	return p.At + size
}

// P1.1: Dist.
func TestDist(t *testing.T) {
	for _, c := range []struct{ a, b, want uint16 }{
		{2, 65535, 3}, {65535, 2, 65533}, {0, 0, 0}, {0, 65535, 1}, {65535, 0, 65535},
		{7, 4, 3}, {32768, 0, 32768}, {0, 32768, 32768},
	} {
		if got := Dist(c.a, c.b); got != c.want {
			t.Errorf("Dist(%d, %d) = %d, want %d", c.a, c.b, got, c.want)
		}
	}
}

// P1.1: Need.
func TestNeed(t *testing.T) {
	for _, c := range []struct {
		event, next, old uint16
		want             bool
	}{
		{65535, 2, 65534, true}, {65534, 2, 65534, true}, {0, 2, 65534, true}, {1, 2, 65534, true},
		{2, 2, 65534, false}, {65533, 2, 65534, false}, {3, 2, 65534, false},
		{1, 1, 65535, false}, {0, 1, 65535, true}, {65535, 1, 65535, true},
		{5, 5, 5, false}, {4, 5, 5, false}, {6, 5, 5, false},
		{5, 5, 6, false}, {6, 5, 6, true}, {4, 5, 6, true},
	} {
		if got := Need(c.event, c.next, c.old); got != c.want {
			t.Errorf("Need(%d, %d, %d) = %v", c.event, c.next, c.old, got)
		}
	}
}

// P1.1, P1.3: Need is true for the events from old up to the one before next, and for no other.
func TestNeedCounts(t *testing.T) {
	for _, old := range []uint16{0, 1, 32767, 32768, 65534, 65535} {
		for _, by := range []uint16{0, 1, 2, 255, 32767, 32768, 65534, 65535} {
			count := 0
			for i := range 1 << 16 {
				is := Need(old+uint16(i), old+by, old)
				if is != (i < int(by)) {
					t.Fatalf("old %d, by %d, event %d behind old: %v", old, by, i, is)
				}
				if is {
					count++
				}
			}
			if count != int(Dist(old+by, old)) {
				t.Errorf("old %d, by %d: %d events", old, by, count)
			}
		}
	}
}

// P1.1: Start and Check.
func TestStartAndCheck(t *testing.T) {
	if Start() != (api.Pos{At: 0, Wrap: true}) {
		t.Error(Start())
	}
	for _, size := range sizes {
		for _, p := range sample(size) {
			if e := Check(p, size); e != api.OK {
				t.Error(p, size, e)
			}
		}
		for _, p := range badPositions(size) {
			if e := Check(p, size); e != api.ErrArg {
				t.Error(p, size, e)
			}
		}
	}
	for _, size := range badSizes {
		if e := Check(Start(), size); e != api.ErrArg {
			t.Error(size, e)
		}
	}
}

// P1.1: the example, and each position of small rings against counting in steps.
func TestGo(t *testing.T) {
	if p, e := Go(api.Pos{At: 2, Wrap: true}, 3, 4); p != (api.Pos{At: 1}) || e != api.OK || Word(p) != 1 {
		t.Error(p, e)
	}
	for size := 1; size <= 8; size++ {
		l := round(size)
		for i, p := range l {
			for by := range size + 1 {
				if got, e := Go(p, by, size); got != l[(i+by)%len(l)] || e != api.OK {
					t.Error(size, p, by, got, e)
				}
			}
		}
	}
	last := api.Pos{At: api.MaxSize - 1}
	if p, e := Go(last, 1, api.MaxSize); p != Start() || e != api.OK {
		t.Error(p, e)
	}
	if p, e := Go(last, api.MaxSize, api.MaxSize); p != (api.Pos{At: api.MaxSize - 1, Wrap: true}) || e != api.OK {
		t.Error(p, e)
	}
}

func TestGoWrong(t *testing.T) {
	for _, size := range sizes {
		for _, p := range badPositions(size) {
			wantGoArg(t, p, 0, size)
		}
		for _, by := range []int{math.MinInt, -1, size + 1, 2 * size, math.MaxInt} {
			wantGoArg(t, Start(), by, size)
			wantGoArg(t, api.Pos{At: size - 1}, by, size)
		}
	}
	for _, size := range badSizes {
		wantGoArg(t, Start(), 0, size)
	}
}

func wantGoArg(t *testing.T, p api.Pos, by, size int) {
	t.Helper()
	if got, e := Go(p, by, size); got != (api.Pos{}) || e != api.ErrArg {
		t.Error(p, by, size, got, e)
	}
}

// P1.1: Word takes the low 15 bits of At, also of one that is in no ring.
func TestWord(t *testing.T) {
	for _, c := range []struct {
		p    api.Pos
		want uint16
	}{
		{api.Pos{}, 0}, {Start(), 32768}, {api.Pos{At: 1}, 1}, {api.Pos{At: 3, Wrap: true}, 32771},
		{api.Pos{At: 32767}, 32767}, {api.Pos{At: 32767, Wrap: true}, 65535},
		{api.Pos{At: 32768}, 0}, {api.Pos{At: 32769, Wrap: true}, 32769}, {api.Pos{At: 65536 + 5}, 5},
		{api.Pos{At: -1}, 32767}, {api.Pos{At: -1, Wrap: true}, 65535},
		{api.Pos{At: math.MinInt}, 0}, {api.Pos{At: math.MaxInt}, 32767},
	} {
		if got := Word(c.p); got != c.want {
			t.Error(c.p, got, c.want)
		}
	}
}

// P1.1: Read, for every word.
func TestRead(t *testing.T) {
	for _, size := range sizes {
		for i := range 1 << 16 {
			w := uint16(i)
			p, e := Read(w, size)
			if i%32768 >= size {
				if p != (api.Pos{}) || e != api.ErrBad {
					t.Fatal(w, size, p, e)
				}
				continue
			}
			if p != (api.Pos{At: i % 32768, Wrap: i >= 32768}) || e != api.OK || Word(p) != w {
				t.Fatal(w, size, p, e)
			}
		}
	}
	for _, size := range badSizes {
		for _, w := range []uint16{0, 32768, 65535} {
			if p, e := Read(w, size); p != (api.Pos{}) || e != api.ErrArg {
				t.Error(w, size, p, e)
			}
		}
	}
}

// P1.1: an event is needed if it is among the positions that were passed.
func TestNeedAt(t *testing.T) {
	if is, e := NeedAt(api.Pos{At: 3, Wrap: true}, api.Pos{}, 1, 4); !is || e != api.OK {
		t.Error(is, e)
	}
	for _, size := range sizes {
		for _, next := range sample(size) {
			for _, event := range sample(size) {
				behind := (order(next, size) - order(event, size) + 2*size) % (2 * size)
				for _, by := range moves(size) {
					want := behind >= 1 && behind <= by
					if is, e := NeedAt(event, next, by, size); is != want || e != api.OK {
						t.Error(size, event, next, by, is, e)
					}
				}
			}
		}
	}
}

func TestNeedAtWrong(t *testing.T) {
	want := func(event, next api.Pos, by, size int) {
		t.Helper()
		if is, e := NeedAt(event, next, by, size); is || e != api.ErrArg {
			t.Error(event, next, by, size, is, e)
		}
	}
	// This event is needed, so that an answer beside the error would be seen.
	event, next := api.Pos{At: 3, Wrap: true}, api.Pos{}
	for _, p := range badPositions(4) {
		want(p, next, 1, 4)
		want(event, p, 1, 4)
		want(p, p, 1, 4)
	}
	for _, by := range []int{math.MinInt, -1, 5, math.MaxInt} {
		want(event, next, by, 4)
	}
	for _, size := range badSizes {
		want(Start(), Start(), 0, size)
	}
}

// P1.1, P1.3: Between returns by how much to advance.
func TestBetween(t *testing.T) {
	for _, size := range sizes {
		for _, a := range sample(size) {
			for _, b := range sample(size) {
				n, e := Between(a, b, size)
				if e != api.OK || n < 0 || n > 2*size-1 {
					t.Error(size, a, b, n, e)
				}
				first := min(n, size)
				p, e1 := Go(a, first, size)
				p, e2 := Go(p, n-first, size)
				if p != b || e1 != api.OK || e2 != api.OK {
					t.Error(size, a, b, n, p, e1, e2)
				}
			}
			for _, by := range moves(size) {
				b, _ := Go(a, by, size)
				if n, e := Between(a, b, size); n != by || e != api.OK {
					t.Error(size, a, b, n, by, e)
				}
			}
		}
	}
}

func TestBetweenWrong(t *testing.T) {
	want := func(a, b api.Pos, size int) {
		t.Helper()
		if n, e := Between(a, b, size); n != 0 || e != api.ErrArg {
			t.Error(a, b, size, n, e)
		}
	}
	for _, p := range badPositions(4) {
		want(p, api.Pos{At: 1}, 4)
		want(api.Pos{At: 1}, p, 4)
	}
	for _, size := range badSizes {
		want(Start(), api.Pos{}, size)
	}
}

// P1.2: Power.
func TestPower(t *testing.T) {
	powers := 0
	for n := -10; n <= 1<<17; n++ {
		if !Power(n) {
			continue
		}
		if n != 1<<powers {
			t.Error(n)
		}
		powers++
	}
	if powers != 16 {
		t.Error(powers)
	}
	for _, n := range []int{math.MinInt, math.MaxInt, 1 << 62, api.MaxSize + 1, 2 * api.MaxSize} {
		if Power(n) {
			t.Error(n)
		}
	}
}

// P1.2: Align.
func TestAlign(t *testing.T) {
	const top = 1 << 63
	for _, c := range []struct{ n, to, want uint64 }{
		{0, 1, 0}, {0, 4096, 0}, {0, top, 0}, {1, 1, 1}, {1, 4096, 4096}, {4095, 4096, 4096},
		{4096, 4096, 4096}, {4097, 4096, 8192}, {5, 2, 6}, {1, top, top}, {top, top, top}, {top - 1, top, top},
		{math.MaxUint64, 1, math.MaxUint64}, {math.MaxUint64 - 1, 2, math.MaxUint64 - 1},
		{math.MaxUint64 - 4096, 4096, math.MaxUint64 - 4095}, {math.MaxUint64 - 4095, 4096, math.MaxUint64 - 4095},
	} {
		if got, e := Align(c.n, c.to); got != c.want || e != api.OK {
			t.Error(c.n, c.to, got, e)
		}
	}
	for shift := range 5 {
		to := uint64(1) << shift
		for n := range uint64(100) {
			want := n
			for want%to != 0 {
				want++
			}
			if got, e := Align(n, to); got != want || e != api.OK {
				t.Error(n, to, got, e)
			}
		}
	}
}

func TestAlignWrong(t *testing.T) {
	for _, c := range []struct{ n, to uint64 }{
		{0, 0}, {1, 0}, {math.MaxUint64, 0}, {0, 3}, {8, 6}, {8, math.MaxUint64}, {8, 1<<63 + 1},
		{math.MaxUint64, 2}, {math.MaxUint64 - 4094, 4096}, {1<<63 + 1, 1 << 63}, {math.MaxUint64, 1 << 63},
	} {
		if got, e := Align(c.n, c.to); got != 0 || e != api.ErrArg {
			t.Error(c.n, c.to, got, e)
		}
	}
}

// P1.3: advancing in parts is advancing by the total, and twice by the size leads back.
func TestGoInParts(t *testing.T) {
	for _, size := range sizes {
		for _, p := range sample(size) {
			for _, by := range moves(size) {
				whole, _ := Go(p, by, size)
				for _, part := range []int{0, 1, by / 2, by - 1, by} {
					if part < 0 || part > by {
						continue
					}
					got, e1 := Go(p, part, size)
					got, e2 := Go(got, by-part, size)
					if got != whole || e1 != api.OK || e2 != api.OK {
						t.Error(size, p, by, part, got)
					}
				}
			}
			once, _ := Go(p, size, size)
			if once != (api.Pos{At: p.At, Wrap: !p.Wrap}) {
				t.Error(size, p, once)
			}
			if twice, e := Go(once, size, size); twice != p || e != api.OK {
				t.Error(size, p, twice, e)
			}
		}
	}
}
