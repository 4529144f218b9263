package feat

import (
	"math"
	"slices"
	"testing"

	"dumbwaiter/api"
)

const all64 = math.MaxUint64

// The bits are told anew from the chapter, as numbers.
var (
	kinds     = []int{1, 2, 3}
	notKinds  = []int{math.MinInt, -1, 0, 4, 5, 28, 1<<32 + 1, math.MaxInt}
	notBits   = []int{math.MinInt, -64, -1, 64, 65, 96, 1 << 32, math.MaxInt}
	ofDevices = []int{28, 29, 32, 34, 35, 40}
	kindBits  = map[int][]int{
		1: {0, 1, 5, 15, 16, 17, 18, 19, 22, 23},
		2: {5, 9, 12, 13, 14},
		3: {0, 1, 2},
	}
	required = map[int]map[int][]int{
		1: {18: {17}, 19: {17}, 22: {17}, 23: {17, 5}},
	}
)

func bitsOf(kind int) []int { return slices.Concat(ofDevices, kindBits[kind]) }

// of returns the set of the bits.
func of(bits ...int) uint64 {
	set := uint64(0)
	for _, b := range bits {
		set |= 1 << uint(b)
	}
	return set
}

// subsets returns all sets that have only some of the bits.
func subsets(bits []int) []uint64 {
	sets := []uint64{0}
	for _, b := range bits {
		for _, s := range slices.Clone(sets) {
			sets = append(sets, s|of(b))
		}
	}
	return sets
}

// strange returns sets each of which has a bit that is not of the kind, and
// otherwise is closed or not.
func strange(kind int) []uint64 {
	sets := []uint64{all64, all64 &^ of(bitsOf(kind)...)}
	for b := range 64 {
		if !slices.Contains(bitsOf(kind), b) {
			sets = append(sets, of(b), of(b, 32), of(b, 32, 29), of(b, 40))
		}
	}
	return sets
}

// lacks returns what a known set lacks, bit by bit.
func lacks(kind int, set uint64) uint64 {
	want := of(32)
	for b, others := range required[kind] {
		if set&of(b) != 0 {
			want |= of(others...)
		}
	}
	return want &^ set
}

// tangled are the bits of a net device that are in a rule, FeatV1, and one that
// is free; few enough for all pairs of sets.
var tangled = []int{5, 17, 18, 19, 22, 23, 32, 29}

// closedSets returns all closed sets that have only some of the bits.
func closedSets(kind int, bits []int) []uint64 {
	return slices.DeleteFunc(subsets(bits), func(s uint64) bool { return lacks(kind, s) != 0 })
}

// P6.1: the names have the numbers of the chapter.
func TestNumbers(t *testing.T) {
	for _, c := range []struct {
		got  []int
		want []int
	}{
		{[]int{api.FeatTable, api.FeatEvent, api.FeatV1, api.FeatPacked, api.FeatOrder, api.FeatReset}, ofDevices},
		{[]int{api.NetSum, api.NetGuestSum, api.NetMac, api.NetMerge, api.NetStatus, api.NetCtrl, api.NetCtrlRx, api.NetVlan, api.NetMQ, api.NetSetMac}, kindBits[api.KindNet]},
		{[]int{api.BlkRO, api.BlkFlush, api.BlkMQ, api.BlkDiscard, api.BlkZeroes}, kindBits[api.KindBlk]},
		{[]int{api.ConsSize, api.ConsPorts, api.ConsEmerg}, kindBits[api.KindCons]},
	} {
		if !slices.Equal(c.got, c.want) {
			t.Error(c.got, c.want)
		}
	}
}

// P6.1: all bits of a kind, and none without a kind.
func TestAll(t *testing.T) {
	for _, kind := range kinds {
		if got := All(kind); got != of(bitsOf(kind)...) {
			t.Errorf("%d %x", kind, got)
		}
	}
	for _, kind := range notKinds {
		if got := All(kind); got != 0 {
			t.Errorf("%d %x", kind, got)
		}
	}
}

// P6.1: every set of bits of a kind is known; it is closed if it lacks nothing.
func TestKnownClosedNeeds(t *testing.T) {
	for _, kind := range kinds {
		for _, s := range subsets(bitsOf(kind)) {
			want := lacks(kind, s)
			if !Known(kind, s) || Closed(kind, s) != (want == 0) || Needs(kind, s) != want {
				t.Fatalf("%d %x %v %v %x", kind, s, Known(kind, s), Closed(kind, s), Needs(kind, s))
			}
		}
	}
}

// P6.1: a set with another bit is not known, so not closed, and needs nothing.
func TestNotKnown(t *testing.T) {
	for _, kind := range kinds {
		for _, s := range strange(kind) {
			if Known(kind, s) || Closed(kind, s) || Accept(kind, all64, s) || Accept(kind, s, s) || Needs(kind, s) != 0 {
				t.Errorf("%d %x", kind, s)
			}
		}
	}
}

// P6.1: without a kind no set is known, not even the empty one.
func TestNoKind(t *testing.T) {
	for _, kind := range notKinds {
		for _, s := range []uint64{0, of(32), of(32, 29), of(18), of(32, 17, 18), all64} {
			if Known(kind, s) || Closed(kind, s) || Accept(kind, s, s) || Accept(kind, all64, s) || Needs(kind, s) != 0 {
				t.Errorf("%d %x", kind, s)
			}
		}
	}
}

// P6.1: each rule on its own, by the names.
func TestRules(t *testing.T) {
	const v = 1 << api.FeatV1
	const ctrl = 1 << api.NetCtrl
	const mac = 1 << api.NetMac
	for _, c := range []struct {
		kind        int
		set, needed uint64
	}{
		{api.KindNet, 0, v},
		{api.KindNet, v, 0},
		{api.KindNet, 1 << api.NetCtrlRx, v | ctrl},
		{api.KindNet, v | 1<<api.NetCtrlRx, ctrl},
		{api.KindNet, v | 1<<api.NetVlan, ctrl},
		{api.KindNet, v | 1<<api.NetMQ, ctrl},
		{api.KindNet, v | 1<<api.NetSetMac, ctrl | mac},
		{api.KindNet, v | ctrl | 1<<api.NetSetMac, mac},
		{api.KindNet, v | mac | 1<<api.NetSetMac, ctrl},
		{api.KindNet, v | mac | ctrl | 1<<api.NetSetMac, 0},
		{api.KindNet, v | ctrl | 1<<api.NetCtrlRx | 1<<api.NetVlan | 1<<api.NetMQ, 0},
		{api.KindNet, v | mac, 0},
		{api.KindNet, v | 1<<api.NetStatus, 0},
		{api.KindBlk, v | 1<<api.BlkRO | 1<<api.FeatEvent, 0},
		{api.KindBlk, v | 1<<api.BlkMQ | 1<<api.BlkZeroes, 0},
		{api.KindBlk, 1 << api.BlkRO, v},
		{api.KindCons, v | 1<<api.ConsPorts, 0},
		{api.KindCons, 1<<api.ConsPorts | 1<<api.ConsEmerg, v},
		{api.KindCons, v | 1<<api.FeatOrder | 1<<api.FeatReset, 0},
	} {
		if got := Needs(c.kind, c.set); got != c.needed || Closed(c.kind, c.set) != (c.needed == 0) {
			t.Errorf("%d %x %x", c.kind, c.set, got)
		}
	}
}

// P6.1: the chapter's examples.
func TestExamples(t *testing.T) {
	if Closed(api.KindNet, of(api.FeatV1, api.NetVlan)) || !Closed(api.KindNet, of(api.FeatV1, api.NetVlan, api.NetCtrl)) {
		t.Error("Closed")
	}
	if best, e := Best(api.KindNet, of(api.FeatV1, api.NetMQ), all64); best != of(api.FeatV1) || e != api.OK {
		t.Errorf("%x %v", best, e)
	}
}

// P6.1: accepted is what is closed, and a subset of the offer.
func TestAccept(t *testing.T) {
	for _, offer := range subsets(tangled) {
		for _, s := range subsets(tangled) {
			want := lacks(api.KindNet, s) == 0 && s&offer == s
			// An offer may have bits that no set of the kind has.
			if Accept(api.KindNet, offer, s) != want || Accept(api.KindNet, offer|of(2, 12, 63), s) != want {
				t.Fatalf("%x %x", offer, s)
			}
		}
	}
	for _, kind := range kinds {
		for _, b := range bitsOf(kind) {
			s := closure(kind, of(b))
			if !Accept(kind, s, s) || !Accept(kind, all64, s) || Accept(kind, s&^of(b), s) || Accept(kind, all64&^of(b), s) || Accept(kind, 0, s) {
				t.Errorf("%d %d", kind, b)
			}
		}
	}
}

// closure returns the set with what it lacks.
func closure(kind int, s uint64) uint64 { return s | lacks(kind, s) }

// P6.1, P6.3: the best set is accepted, and wanted, and every other one that is
// so is a subset of it.
func TestBest(t *testing.T) {
	for _, kind := range kinds {
		bits := bitsOf(kind)
		if kind == api.KindNet {
			bits = tangled
		} else {
			bits = slices.DeleteFunc(bits, func(b int) bool { return b > 32 })
		}
		closed := closedSets(kind, bits)
		for _, offer := range subsets(bits) {
			if offer&of(32) == 0 {
				continue
			}
			for _, want := range subsets(bits) {
				wantBest(t, kind, offer, want, closed)
			}
		}
	}
}

func wantBest(t *testing.T, kind int, offer, want uint64, closed []uint64) {
	t.Helper()
	allowed := offer & (want | of(32))
	union := uint64(0)
	for _, s := range closed {
		if s&allowed == s {
			union |= s
		}
	}
	best, e := Best(kind, offer, want)
	if best != union || e != api.OK || lacks(kind, best) != 0 || best&^allowed != 0 || !Accept(kind, offer, best) {
		t.Fatalf("%d %x %x: %x, %x %v", kind, offer, want, union, best, e)
	}
}

// P6.1: an offer, and what is wanted, may have any bits.
func TestBestOfAnyBits(t *testing.T) {
	for _, kind := range kinds {
		all := of(bitsOf(kind)...)
		for _, c := range []struct{ offer, want, best uint64 }{
			{all64, all64, all}, {all, all64, all}, {all64, all, all}, {all, all, all},
			{all64, 0, of(32)}, {all64, of(32), of(32)}, {of(32), all64, of(32)}, {of(32), 0, of(32)},
			{all64&^all | of(32), all64, of(32)}, {all64, all64 &^ all, of(32)}, {all64, all64 &^ of(32), all},
			{all64 &^ of(28), all64, all &^ of(28)}, {all64, all64 &^ of(40), all &^ of(40)},
		} {
			if best, e := Best(kind, c.offer, c.want); best != c.best || e != api.OK {
				t.Errorf("%d %x %x: %x %v", kind, c.offer, c.want, best, e)
			}
		}
	}
	for _, c := range []struct{ offer, want, best uint64 }{
		{all64 &^ of(17), all64, of(bitsOf(1)...) &^ of(17, 18, 19, 22, 23)},
		{all64, all64 &^ of(17), of(bitsOf(1)...) &^ of(17, 18, 19, 22, 23)},
		{all64 &^ of(5), all64, of(bitsOf(1)...) &^ of(5, 23)},
		{all64, all64 &^ of(5), of(bitsOf(1)...) &^ of(5, 23)},
		{all64, of(18, 19), of(32)},
		{all64, of(23, 17, 19), of(32, 17, 19)},
	} {
		if best, e := Best(api.KindNet, c.offer, c.want); best != c.best || e != api.OK {
			t.Errorf("%x %x: %x %v", c.offer, c.want, best, e)
		}
	}
}

// P6.1: ErrArg without a kind, and without FeatV1 in the offer, with no set.
func TestBestErrors(t *testing.T) {
	for _, kind := range notKinds {
		for _, offer := range []uint64{0, of(32), of(29), all64} {
			wantNoBest(t, kind, offer)
		}
	}
	for _, kind := range kinds {
		for _, offer := range []uint64{0, all64 &^ of(32), of(31), of(33), of(0), of(bitsOf(kind)...) &^ of(32)} {
			wantNoBest(t, kind, offer)
		}
	}
}

func wantNoBest(t *testing.T, kind int, offer uint64) {
	t.Helper()
	for _, want := range []uint64{0, of(32), of(29, 32), all64} {
		if best, e := Best(kind, offer, want); best != 0 || e != api.ErrArg {
			t.Errorf("%d %x %x: %x %v", kind, offer, want, best, e)
		}
	}
}

// P6.2: each bit of a set, and no bit that there is not.
func TestHas(t *testing.T) {
	for b := range 64 {
		for other := range 64 {
			if Has(of(b), other) != (b == other) || Has(all64&^of(b), other) != (b != other) {
				t.Error(b, other)
			}
		}
		if Has(0, b) || !Has(all64, b) {
			t.Error(b)
		}
	}
	for _, b := range notBits {
		for _, s := range []uint64{0, 1, 1 << 63, all64} {
			if Has(s, b) {
				t.Errorf("%x %d", s, b)
			}
		}
	}
}

// P6.2: the bits come to those that are there.
func TestWith(t *testing.T) {
	for _, c := range []struct {
		set  uint64
		bits []int
	}{
		{0, nil}, {5, nil}, {all64, nil}, {5, []int{}}, {0, []int{0}}, {0, []int{63}}, {1, []int{0}}, {1, []int{63, 1}},
		{0, []int{7, 7, 7}}, {2, []int{32, 1, 32}}, {all64, []int{0, 63}}, {1 << 40, []int{32, 28, 29}},
	} {
		if got, e := With(c.set, c.bits...); got != c.set|of(c.bits...) || e != api.OK {
			t.Errorf("%x %v: %x %v", c.set, c.bits, got, e)
		}
	}
	var bits []int
	for b := range 64 {
		if got, e := With(0, b); got != of(b) || e != api.OK {
			t.Errorf("%d: %x %v", b, got, e)
		}
		bits = append(bits, b)
	}
	if got, e := With(0, bits...); got != all64 || e != api.OK {
		t.Errorf("%x %v", got, e)
	}
}

// P6.2: one bit that there is not, wherever it is, and nothing comes with it.
func TestWithErrors(t *testing.T) {
	for _, bad := range notBits {
		for _, bits := range [][]int{{bad}, {bad, 3}, {3, bad}, {3, bad, 4}, {bad, bad}} {
			for _, s := range []uint64{0, 9, all64} {
				if got, e := With(s, bits...); got != 0 || e != api.ErrArg {
					t.Errorf("%x %v: %x %v", s, bits, got, e)
				}
			}
		}
	}
}

// P6.2: the bits are as they were, and what lies behind them is not read.
func TestWithArguments(t *testing.T) {
	bits := []int{3, 4, 70, 5}
	if got, e := With(0, bits[:2]...); got != of(3, 4) || e != api.OK {
		t.Errorf("%x %v", got, e)
	}
	if _, e := With(0, bits...); e != api.ErrArg {
		t.Error(e)
	}
	if !slices.Equal(bits, []int{3, 4, 70, 5}) {
		t.Error(bits)
	}
}

// P6.2: three bits, each on its own, whatever the others are.
func TestOpts(t *testing.T) {
	others := all64 &^ of(28, 29, 34)
	for _, event := range []bool{false, true} {
		for _, table := range []bool{false, true} {
			for _, packed := range []bool{false, true} {
				s := uint64(0)
				if event {
					s |= of(29)
				}
				if table {
					s |= of(28)
				}
				if packed {
					s |= of(34)
				}
				want := api.Opts{Event: event, Table: table, Packed: packed}
				if Opts(s) != want || Opts(s|others) != want || Opts(s|of(32)) != want {
					t.Errorf("%x %v", s, Opts(s))
				}
			}
		}
	}
}

// P6.3: the union and the intersection of two closed sets are closed.
func TestClosedTogether(t *testing.T) {
	for _, kind := range kinds {
		bits := bitsOf(kind)
		if kind == api.KindNet {
			bits = tangled
		}
		closed := closedSets(kind, bits)
		for _, a := range closed {
			for _, b := range closed {
				if !Closed(kind, a|b) || !Closed(kind, a&b) {
					t.Fatalf("%d %x %x", kind, a, b)
				}
			}
		}
	}
}

// P6.3: a known set together with what it needs is closed, and no smaller one is.
func TestClosedWithNeeds(t *testing.T) {
	for _, kind := range kinds {
		for _, s := range subsets(bitsOf(kind)) {
			n := Needs(kind, s)
			if !Closed(kind, s|n) || n&s != 0 {
				t.Fatalf("%d %x %x", kind, s, n)
			}
			for b := range 64 {
				if n&of(b) != 0 && Closed(kind, (s|n)&^of(b)) {
					t.Fatalf("%d %x %x %d", kind, s, n, b)
				}
			}
		}
	}
}
