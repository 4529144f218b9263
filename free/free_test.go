package free

import (
	"math"
	"slices"
	"testing"

	"dumbwaiter/api"
)

// far are numbers that no list can have.
var far = []int{-1, -2, -63, -64, -65, math.MinInt, math.MinInt + 1, api.MaxSize, api.MaxSize + 1, 1 << 32, 1<<32 + 1, math.MaxInt}

// sizes are valid ones, also beside the numbers that a word of bits ends at.
var sizes = []int{1, 2, 3, 4, 5, 31, 32, 33, 63, 64, 65, 127, 128, 129, 1000, 4096, api.MaxSize - 1, api.MaxSize}

// wrongSizes are those that no list has.
var wrongSizes = []int{0, -1, -4, math.MinInt, api.MaxSize + 1, 1 << 16, 1 << 32, 1<<32 + 1, 1<<32 + 4, math.MaxInt}

// tuples returns all lists of at most n numbers from lowest to highest, also
// those in which a number occurs twice.
func tuples(n, lowest, highest int) [][]int {
	all := [][]int{nil}
	last := all
	for range n {
		var next [][]int
		for _, l := range last {
			for k := lowest; k <= highest; k++ {
				next = append(next, append(slices.Clone(l), k))
			}
		}
		all = append(all, next...)
		last = next
	}
	return all
}

// outside reports whether a number is not one of a list of that size.
func outside(size int, l []int) bool {
	return slices.ContainsFunc(l, func(n int) bool { return n < 0 || n >= size })
}

// twice reports whether a number occurs twice.
func twice(l []int) bool {
	for i, n := range l {
		if slices.Contains(l[:i], n) {
			return true
		}
	}
	return false
}

// small returns all valid lists of sizes up to 4, in each order.
func small() []api.Free {
	var all []api.Free
	for size := 1; size <= 4; size++ {
		for _, l := range tuples(size, 0, size-1) {
			if !twice(l) {
				all = append(all, api.Free{Size: size, List: l})
			}
		}
	}
	return all
}

// invalid returns lists that no function takes.
func invalid() []api.Free {
	all := []api.Free{{}, {List: []int{}}, {Size: 0, List: []int{0}}}
	for _, size := range wrongSizes {
		all = append(all, api.Free{Size: size}, api.Free{Size: size, List: []int{0}}, api.Free{Size: size, List: []int{2, 1}})
	}
	for size := 1; size <= 3; size++ {
		for _, l := range tuples(size+1, -1, size) {
			if twice(l) || outside(size, l) {
				all = append(all, api.Free{Size: size, List: l})
			}
		}
	}
	for _, n := range far {
		all = append(all, api.Free{Size: api.MaxSize, List: []int{n}}, api.Free{Size: 70, List: []int{3, n, 4}})
	}
	for _, n := range []int{0, 63, 64, 65, 127, 128, 129} {
		all = append(all, api.Free{Size: 130, List: []int{n, 1, n}}, api.Free{Size: n, List: []int{n}})
	}
	full := fresh(api.MaxSize)
	return append(all, api.Free{Size: api.MaxSize, List: append(full.List, 0)}, api.Free{Size: api.MaxSize - 1, List: fresh(api.MaxSize).List})
}

// fresh returns the list of that size of which nothing was taken.
func fresh(size int) api.Free {
	f := api.Free{Size: size}
	for n := range size {
		f.List = append(f.List, n)
	}
	return f
}

// same holds lists against each other without Same.
func same(a, b api.Free) bool { return a.Size == b.Size && slices.Equal(a.List, b.List) }

// nothing reports whether a list is the one beside an error.
func nothing(f api.Free) bool { return f.Size == 0 && len(f.List) == 0 }

// P8.1: New of each kind of size.
func TestNew(t *testing.T) {
	for _, size := range sizes {
		f, e := New(size)
		if e != api.OK || !same(f, fresh(size)) || Check(f) != api.OK || Count(f) != size {
			t.Error(size, e, Count(f))
		}
	}
	for _, size := range wrongSizes {
		if f, e := New(size); e != api.ErrArg || !nothing(f) {
			t.Error(size, f, e)
		}
	}
}

// P8.1: lists in each order are valid, also empty ones.
func TestCheckValid(t *testing.T) {
	for _, f := range small() {
		if e := Check(f); e != api.OK {
			t.Error(f, e)
		}
	}
	for _, size := range sizes {
		back := fresh(size)
		slices.Reverse(back.List)
		for _, f := range []api.Free{fresh(size), back, {Size: size}, {Size: size, List: []int{}}, {Size: size, List: []int{size - 1}}} {
			if e := Check(f); e != api.OK {
				t.Error(size, len(f.List), e)
			}
		}
	}
}

// P8.1: for a list that is not valid there is ErrArg, 0 or false, whatever
// else is wrong.
func TestInvalid(t *testing.T) {
	for _, f := range invalid() {
		if e := Check(f); e != api.ErrArg {
			t.Error("Check", f.Size, len(f.List), e)
		}
		for _, n := range []int{-1, 0, 1, 2, 1000, api.MaxSize, math.MaxInt, math.MinInt} {
			if l, rest, e := Take(f, n); len(l) != 0 || !nothing(rest) || e != api.ErrArg {
				t.Error("Take", f.Size, n, len(l), rest.Size, e)
			}
			if g, e := Give(f, n); !nothing(g) || e != api.ErrArg {
				t.Error("Give", f.Size, n, g.Size, e)
			}
			if Is(f, n) {
				t.Error("Is", f.Size, n)
			}
		}
		if g, e := Give(f); !nothing(g) || e != api.ErrArg {
			t.Error("Give nothing", f.Size, g.Size, e)
		}
		if g, e := Give(f, 0, 0); !nothing(g) || e != api.ErrArg {
			t.Error("Give twice", f.Size, g.Size, e)
		}
		if n := Count(f); n != 0 {
			t.Error("Count", f.Size, n)
		}
	}
}

// P8.1: each number of each small list is taken, and each wrong one refused.
func TestTake(t *testing.T) {
	for _, f := range small() {
		for n := -2; n <= f.Size+2; n++ {
			l, rest, e := Take(f, n)
			switch {
			case n < 1:
				if len(l) != 0 || !nothing(rest) || e != api.ErrArg {
					t.Error(f, n, l, rest, e)
				}
			case n > len(f.List):
				if len(l) != 0 || !nothing(rest) || e != api.ErrFull {
					t.Error(f, n, l, rest, e)
				}
			default:
				if !slices.Equal(l, f.List[:n]) || !same(rest, api.Free{Size: f.Size, List: f.List[n:]}) || e != api.OK {
					t.Error(f, n, l, rest, e)
				}
			}
		}
	}
	for _, size := range sizes {
		for _, c := range []struct {
			n int
			e api.Errno
		}{{math.MinInt, api.ErrArg}, {0, api.ErrArg}, {1, api.OK}, {size, api.OK}, {size + 1, api.ErrFull}, {1 << 32, api.ErrFull}, {math.MaxInt, api.ErrFull}} {
			if l, rest, e := Take(fresh(size), c.n); e != c.e || (e == api.OK && len(l)+len(rest.List) != size) {
				t.Error(size, c.n, len(l), e)
			}
		}
	}
}

// P8.1: whatever is given to each small list: a number out of range anywhere
// comes before one that is there.
func TestGive(t *testing.T) {
	for _, f := range small() {
		for _, l := range tuples(3, -1, f.Size) {
			g, e := Give(f, l...)
			switch {
			case outside(f.Size, l):
				if !nothing(g) || e != api.ErrArg {
					t.Fatal(f, l, g, e)
				}
			case twice(slices.Concat(l, f.List)):
				if !nothing(g) || e != api.ErrThere {
					t.Fatal(f, l, g, e)
				}
			default:
				if !same(g, api.Free{Size: f.Size, List: slices.Concat(l, f.List)}) || e != api.OK {
					t.Fatal(f, l, g, e)
				}
			}
		}
	}
}

// P8.1: numbers far out of range, alone and behind ones that are free.
func TestGiveFar(t *testing.T) {
	f := api.Free{Size: 130, List: []int{64, 0, 129}}
	for _, n := range append(slices.Clone(far), 130, 131, 192) {
		for _, l := range [][]int{{n}, {n, n}, {1, n}, {0, n}, {n, 0}, {1, 1, n}} {
			if g, e := Give(f, l...); !nothing(g) || e != api.ErrArg {
				t.Error(l, g, e)
			}
		}
	}
}

// P8.1: each number of a list of more than two words of bits, given and asked for.
func TestEachNumber(t *testing.T) {
	for n := range 130 {
		for k := range 130 {
			want := api.OK
			if n == k {
				want = api.ErrThere
			}
			f := api.Free{Size: 130, List: []int{n}}
			g, e := Give(f, k)
			if e != want || (e == api.OK && !same(g, api.Free{Size: 130, List: []int{k, n}})) {
				t.Fatal(n, k, g, e)
			}
			if h, e := Give(api.Free{Size: 130}, n, k); e != want || (e == api.OK && !same(h, api.Free{Size: 130, List: []int{n, k}})) {
				t.Fatal(n, k, h, e)
			}
			if Is(f, k) != (n == k) {
				t.Fatal(n, k)
			}
		}
	}
}

// P8.1: how many are free, and which.
func TestCountAndIs(t *testing.T) {
	for _, f := range small() {
		if n := Count(f); n != len(f.List) {
			t.Error(f, n)
		}
		for n := -2; n <= f.Size+2; n++ {
			if Is(f, n) != slices.Contains(f.List, n) {
				t.Error(f, n)
			}
		}
	}
	for _, size := range sizes {
		f := fresh(size)
		for _, n := range append(slices.Clone(far), size, size+1, size+63, size+64) {
			if Is(f, n) {
				t.Error(size, n)
			}
		}
		if !Is(f, 0) || !Is(f, size-1) || Is(api.Free{Size: size, List: f.List[1:]}, 0) || Is(api.Free{Size: size, List: f.List[:size-1]}, size-1) {
			t.Error(size)
		}
	}
}

// P8.1: lists are the same if all fields are equal, valid or not.
func TestSame(t *testing.T) {
	lists := []api.Free{
		{}, {Size: 4}, {Size: 5}, {Size: -4}, {Size: 4, List: []int{1}}, {Size: 4, List: []int{2}}, {Size: 5, List: []int{1}},
		{Size: 4, List: []int{1, 2}}, {Size: 4, List: []int{2, 1}}, {Size: 4, List: []int{1, 1}}, {Size: 4, List: []int{1, 2, 3}},
		{List: []int{1}}, {Size: 4, List: []int{-1}}, {Size: 4, List: []int{9}}, {Size: 4, List: []int{0}},
	}
	for i, a := range lists {
		for j, b := range lists {
			if Same(a, api.Free{Size: b.Size, List: slices.Clone(b.List)}) != (i == j) {
				t.Error(a, b)
			}
		}
	}
	// A nil slice and an empty one are the same.
	if !Same(api.Free{Size: 4}, api.Free{Size: 4, List: []int{}}) || !Same(api.Free{Size: 4, List: make([]int, 0, 9)}, api.Free{Size: 4}) {
		t.Error("no list is not an empty list")
	}
}

// P8.1: the examples of the chapter.
func TestExamples(t *testing.T) {
	f, e0 := New(4)
	a, f, e1 := Take(f, 2)
	b, f, e2 := Take(f, 1)
	f, e3 := Give(f, 1, 0)
	if !slices.Equal(a, []int{0, 1}) || !slices.Equal(b, []int{2}) || !same(f, api.Free{Size: 4, List: []int{1, 0, 3}}) {
		t.Error(a, b, f)
	}
	if e := e0 | e1 | e2 | e3; e != api.OK {
		t.Error(e)
	}
	if g, e := Give(f, 3); !nothing(g) || e != api.ErrThere {
		t.Error(g, e)
	}
}

// spoil changes all that belongs to a slice, its spare capacity too.
func spoil(l []int) {
	l = l[:cap(l)]
	for i := range l {
		l[i] = -7
	}
}

// roomy returns the numbers, with more behind them in the spare capacity.
func roomy(l []int) []int {
	return append(slices.Clone(l), 11, 12, 13, 14)[:len(l)]
}

// kept reports whether a slice, with what is behind it, is still as roomy made it.
func kept(got, was []int) bool {
	return slices.Equal(got[:len(was)+4], append(slices.Clone(was), 11, 12, 13, 14))
}

// P8.1: results share no memory with an argument, nor with each other.
func TestTakeSharesNothing(t *testing.T) {
	for _, f := range small() {
		for n := 1; n <= len(f.List); n++ {
			arg := api.Free{Size: f.Size, List: roomy(f.List)}
			l, rest, _ := Take(arg, n)
			if !kept(arg.List, f.List) {
				t.Fatal(f, n, arg.List)
			}
			spoil(arg.List)
			if !slices.Equal(l, f.List[:n]) || !slices.Equal(rest.List, f.List[n:]) {
				t.Fatal("of the argument", f, n, l, rest)
			}
			spoil(l)
			if !slices.Equal(rest.List, f.List[n:]) {
				t.Fatal("of the other one", f, n, rest)
			}
			again := api.Free{Size: f.Size, List: roomy(f.List)}
			l, rest, _ = Take(again, n)
			spoil(rest.List)
			if !slices.Equal(l, f.List[:n]) || !kept(again.List, f.List) {
				t.Fatal("of the rest", f, n, l, again)
			}
			spoil(l)
			if !kept(again.List, f.List) {
				t.Fatal("of what was taken", f, n, again)
			}
		}
	}
}

// P8.1: the list that results shares no memory with what was given, also if
// one of both is empty.
func TestGiveSharesNothing(t *testing.T) {
	for _, f := range small() {
		for _, l := range tuples(3, 0, f.Size-1) {
			if twice(slices.Concat(l, f.List)) {
				continue
			}
			want := slices.Concat(l, f.List)
			arg, given := api.Free{Size: f.Size, List: roomy(f.List)}, roomy(l)
			g, e := Give(arg, given...)
			if e != api.OK || !slices.Equal(g.List, want) || !kept(arg.List, f.List) || !kept(given, l) {
				t.Fatal(f, l, g, e)
			}
			spoil(g.List)
			if !kept(arg.List, f.List) || !kept(given, l) {
				t.Fatal("of the result", f, l, arg, given)
			}
			g, _ = Give(arg, given...)
			spoil(arg.List)
			spoil(given)
			if !slices.Equal(g.List, want) {
				t.Fatal("of an argument", f, l, g)
			}
		}
	}
}

// P8.1: each new list has memory of its own.
func TestNewSharesNothing(t *testing.T) {
	a, _ := New(70)
	spoil(a.List)
	if b, e := New(70); !same(b, fresh(70)) || e != api.OK {
		t.Error(b, e)
	}
}

// P8.2: what Take took, Give gives back, so that the list is as it was.
func TestGiveUndoesTake(t *testing.T) {
	lists := small()
	for _, size := range sizes {
		back := fresh(size)
		slices.Reverse(back.List)
		lists = append(lists, fresh(size), back)
	}
	for _, f := range lists {
		for _, n := range []int{1, 2, 3, 4, 63, 64, 65, len(f.List) - 1, len(f.List)} {
			l, rest, e := Take(f, n)
			if e != api.OK {
				continue
			}
			if g, e := Give(rest, l...); e != api.OK || !Same(g, f) || !same(g, f) {
				t.Error(f.Size, n, len(g.List), e)
			}
		}
	}
}

// run is a free list, and the numbers that were taken from it, in that order.
type run struct {
	f   api.Free
	out []int
}

// check tells whether nothing is lost, and nothing is there twice.
func (r run) check(t *testing.T) {
	t.Helper()
	all := slices.Sorted(slices.Values(slices.Concat(r.f.List, r.out)))
	if Check(r.f) != api.OK || Count(r.f)+len(r.out) != r.f.Size || !slices.Equal(all, fresh(r.f.Size).List) {
		t.Fatal(r)
	}
	for n := range r.f.Size {
		if Is(r.f, n) == slices.Contains(r.out, n) {
			t.Fatal(r, n)
		}
	}
}

// next returns the runs that one call makes of this one: any number is taken,
// and any one or two that are out are given, in both orders.
func (r run) next(t *testing.T) []run {
	t.Helper()
	var all []run
	for n := 1; n <= Count(r.f); n++ {
		l, f, e := Take(r.f, n)
		if e != api.OK {
			t.Fatal(r, n, e)
		}
		all = append(all, run{f, slices.Concat(r.out, l)})
	}
	for _, a := range r.out {
		for _, b := range r.out {
			l := []int{a, b}
			if a == b {
				l = l[:1]
			}
			f, e := Give(r.f, l...)
			if e != api.OK {
				t.Fatal(r, l, e)
			}
			left := slices.DeleteFunc(slices.Clone(r.out), func(n int) bool { return slices.Contains(l, n) })
			all = append(all, run{f, left})
		}
	}
	return all
}

// P8.2: in whatever order numbers are taken and given, each is either free or
// taken, and never both.
func TestTheorems(t *testing.T) {
	for size := 1; size <= 4; size++ {
		f, _ := New(size)
		seen := map[[9]int]bool{}
		for work := []run{{f: f}}; len(work) > 0; work = work[1:] {
			var key [9]int
			key[8] = len(work[0].f.List)
			copy(key[:], slices.Concat(work[0].f.List, work[0].out))
			if !seen[key] {
				seen[key] = true
				work[0].check(t)
				work = append(work, work[0].next(t)...)
			}
		}
		// All orders of the numbers are reached, with each number of free ones.
		want := size + 1
		for n := range size {
			want *= n + 1
		}
		if len(seen) != want {
			t.Error(size, len(seen), want)
		}
	}
}

// P8.1, P8.2: the greatest list, all of it taken in steps and given back.
func TestGreatest(t *testing.T) {
	const step = 1024
	f, _ := New(api.MaxSize)
	var out [][]int
	for n := 0; n < api.MaxSize; n += step {
		l, rest, e := Take(f, step)
		if e != api.OK || l[0] != n || l[step-1] != n+step-1 || Count(rest) != api.MaxSize-n-step {
			t.Fatal(n, e)
		}
		out, f = append(out, l), rest
	}
	if _, _, e := Take(f, 1); e != api.ErrFull || Count(f) != 0 {
		t.Error(e)
	}
	for _, l := range out {
		g, e := Give(f, l...)
		if _, again := Give(g, l[step/2]); e != api.OK || again != api.ErrThere {
			t.Fatal(e, again)
		}
		f = g
	}
	// What was given last is taken first.
	want := slices.Concat(fresh(api.MaxSize).List[api.MaxSize-step:], fresh(api.MaxSize).List[api.MaxSize-2*step:api.MaxSize-step])
	if !slices.Equal(f.List[:2*step], want) || Count(f) != api.MaxSize {
		t.Error(f.List[:3])
	}
}
