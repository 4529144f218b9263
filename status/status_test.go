package status

import (
	"math"
	"testing"

	"dumbwaiter/api"
)

// Bits of sets, as numbers of the chapter of features.
const (
	v1    = 1 << 32
	event = 1 << 29
	mac   = 1 << 5
	ctrl  = 1 << 17
	rx    = 1 << 18
	own   = 1 << 23
	flush = 1 << 9
	all64 = math.MaxUint64
)

// shape is a device, the sets that it accepts, and some that it does not.
type shape struct {
	kind     int
	offer    uint64
	accepted []uint64
	not      []uint64
}

// What is not accepted is not offered, not known, without FeatV1, or lacks
// what another bit requires.
var shapes = []shape{
	{api.KindBlk, v1, []uint64{v1}, []uint64{0, v1 | flush, v1 | event, event, all64}},
	{api.KindBlk, v1 | flush, []uint64{v1, v1 | flush}, []uint64{0, flush, v1 | event, v1 | flush | 1<<5, v1 | 1, all64}},
	{api.KindNet, v1 | mac | rx | own, []uint64{v1, v1 | mac}, []uint64{0, mac, v1 | rx, v1 | mac | own, v1 | ctrl, v1 | ctrl | rx, all64}},
	{api.KindNet, v1 | mac | ctrl | own, []uint64{v1, v1 | mac, v1 | ctrl, v1 | mac | ctrl, v1 | mac | ctrl | own}, []uint64{0, ctrl, v1 | own, v1 | mac | own, v1 | ctrl | own, v1 | flush}},
	{api.KindCons, v1 | event | 1, []uint64{v1, v1 | event, v1 | 1, v1 | event | 1}, []uint64{0, 1, event | 1, v1 | 2, v1 | flush, all64}},
}

// badOffers are offers that no device of the kind may have.
var badOffers = map[int][]uint64{
	api.KindNet:  {0, mac, v1 | flush, v1 | 1<<2, v1 | 1<<63, v1 | 1<<31, all64, all64 &^ v1},
	api.KindBlk:  {0, flush, v1 | mac | 1, v1 | ctrl, v1 | 1<<63, v1 | 1<<33, all64, all64 &^ v1},
	api.KindCons: {0, 1, v1 | mac, v1 | 1<<3, v1 | 1<<63, v1 | 1<<41, all64, all64 &^ v1},
}

var notKinds = []int{math.MinInt, -1, 0, 4, 5, 1<<32 + 2, math.MaxInt}

func contains(sets []uint64, set uint64) bool {
	for _, s := range sets {
		if s == set {
			return true
		}
	}
	return false
}

// guests returns all sets that are requested of a device here.
func (s shape) guests() []uint64 {
	return append(append([]uint64(nil), s.accepted...), s.not...)
}

// fits reports, bit by bit, whether a status may stand beside the features.
func (s shape) fits(status byte, guest uint64) bool {
	is := func(bit byte) bool { return status&bit == bit }
	switch {
	case is(16) || is(32):
		return false
	case is(2) && !is(1):
		return false
	case is(8) && (!is(2) || !contains(s.accepted, guest)):
		return false
	case is(4) && !is(8):
		return false
	case is(64) && !is(4):
		return false
	}
	return is(2) || guest == 0
}

// states calls see with each state of each device, and whether it is valid.
func states(see func(s shape, d api.Dev, good bool)) {
	for _, s := range shapes {
		for _, guest := range s.guests() {
			for status := range 256 {
				d := api.Dev{Kind: s.kind, Offer: s.offer, Guest: guest, Status: byte(status)}
				see(s, d, s.fits(d.Status, guest))
			}
		}
	}
}

// wrong calls see with states that are not valid, whatever their status, since
// there is no such kind, or it can not have that offer.
func wrong(see func(d api.Dev)) {
	for status := range 256 {
		for _, guest := range []uint64{0, v1, v1 | flush, all64} {
			for _, kind := range notKinds {
				for _, offer := range []uint64{0, v1, v1 | event, v1 | flush, all64} {
					see(api.Dev{Kind: kind, Offer: offer, Guest: guest, Status: byte(status)})
				}
			}
			for kind, offers := range badOffers {
				for _, offer := range offers {
					see(api.Dev{Kind: kind, Offer: offer, Guest: guest, Status: byte(status)})
				}
			}
		}
	}
}

// after tells anew what follows a status that is written to a valid state.
func (s shape) after(d api.Dev, word byte) api.Dev {
	if word == 0 {
		d.Status, d.Guest = 0, 0
		return d
	}
	if word%2 == 1 {
		d.Status |= 1
	}
	if word/2%2 == 1 && d.Status&1 != 0 {
		d.Status |= 2
	}
	if word/8%2 == 1 && d.Status&2 != 0 && contains(s.accepted, d.Guest) {
		d.Status |= 8
	}
	if word/4%2 == 1 && d.Status&8 != 0 {
		d.Status |= 4
	}
	if word/128 == 1 {
		d.Status |= 128
	}
	return d
}

// live returns a block device that runs with FeatV1.
func live(t *testing.T) api.Dev {
	t.Helper()
	d, e := New(api.KindBlk, v1|flush)
	if e != api.OK {
		t.Fatal(e)
	}
	d = Write(Write(Ask(Write(Write(d, 1), 3), v1), 11), 15)
	if d.Status != 15 {
		t.Fatal(d)
	}
	return d
}

// P7.1: the bits of a status have the numbers of the chapter.
func TestNumbers(t *testing.T) {
	got := [6]int{api.StAck, api.StDriver, api.StLive, api.StFeat, api.StNeeds, api.StFailed}
	if got != [6]int{1, 2, 4, 8, 64, 128} {
		t.Error(got)
	}
}

// P7.1: a new device has its kind and its offer, and nothing else.
func TestNew(t *testing.T) {
	for _, s := range shapes {
		d, e := New(s.kind, s.offer)
		if e != api.OK || d != (api.Dev{Kind: s.kind, Offer: s.offer}) {
			t.Error(s, d, e)
		}
	}
}

// P7.1: there is no new device without a kind, or with an offer that is not
// known for it or has no FeatV1.
func TestNewWrong(t *testing.T) {
	wrong(func(d api.Dev) {
		if n, e := New(d.Kind, d.Offer); e != api.ErrArg || n != (api.Dev{}) {
			t.Fatal(d, n, e)
		}
	})
}

// P7.1: Check accepts each status beside each set as the terms say.
func TestCheck(t *testing.T) {
	states(func(_ shape, d api.Dev, good bool) {
		if e := Check(d); (e == api.OK) != good || !good && e != api.ErrArg {
			t.Fatal(d, good, e)
		}
	})
	wrong(func(d api.Dev) {
		if e := Check(d); e != api.ErrArg {
			t.Fatal(d, e)
		}
	})
}

// P7.1: each condition of a valid state on its own.
func TestCheckOnce(t *testing.T) {
	for _, c := range []struct {
		guest  uint64
		status byte
		want   api.Errno
	}{
		{0, 0, api.OK}, {0, 1, api.OK}, {0, 3, api.OK}, {0, 128, api.OK}, {0, 129, api.OK},
		{flush, 3, api.OK}, {all64, 3, api.OK}, {v1, 11, api.OK}, {v1 | flush, 15, api.OK},
		{v1, 79, api.OK}, {v1, 207, api.OK},
		{0, 2, api.ErrArg}, {v1, 10, api.ErrArg},
		{v1, 9, api.ErrArg}, {0, 9, api.ErrArg}, {0, 11, api.ErrArg}, {flush, 11, api.ErrArg}, {v1 | event, 11, api.ErrArg},
		{v1, 7, api.ErrArg}, {v1, 75, api.ErrArg}, {0, 64, api.ErrArg},
		{v1, 0, api.ErrArg}, {v1, 1, api.ErrArg}, {v1, 129, api.ErrArg},
		{0, 16, api.ErrArg}, {0, 32, api.ErrArg}, {v1, 31, api.ErrArg}, {v1, 47, api.ErrArg},
	} {
		d := api.Dev{Kind: api.KindBlk, Offer: v1 | flush, Guest: c.guest, Status: c.status}
		if e := Check(d); e != c.want {
			t.Error(c, e)
		}
	}
}

// P7.1: every word, written to every valid state.
func TestWrite(t *testing.T) {
	states(func(s shape, d api.Dev, good bool) {
		for word := range 256 {
			want := d
			if good {
				want = s.after(d, byte(word))
			}
			if got := Write(d, byte(word)); got != want {
				t.Fatal(d, word, got, want)
			}
		}
	})
}

// P7.1: bits that nobody can write, alone, are not a reset, and set nothing.
func TestWriteNothing(t *testing.T) {
	d := live(t)
	for _, word := range []byte{16, 32, 64, 112} {
		if got := Write(d, word); got != d {
			t.Error(word, got)
		}
	}
	broken, _ := Break(d)
	for _, word := range []byte{1, 15, 64, 127} {
		if got := Write(broken, word); got != broken {
			t.Error(word, got)
		}
	}
	if got := Write(broken, 0); got != (api.Dev{Kind: d.Kind, Offer: d.Offer}) {
		t.Error(got)
	}
}

// P7.1: features are taken as they are with StDriver and without StFeat,
// otherwise nothing changes.
func TestAsk(t *testing.T) {
	states(func(s shape, d api.Dev, good bool) {
		for _, set := range s.guests() {
			want := d
			if good && d.Status&2 != 0 && d.Status&8 == 0 {
				want.Guest = set
			}
			if got := Ask(d, set); got != want {
				t.Fatal(d, set, got, want)
			}
		}
	})
}

// P7.1: what is not valid stays as it is.
func TestWrongStays(t *testing.T) {
	wrong(func(d api.Dev) {
		for _, word := range []byte{0, 1, 3, 11, 15, 64, 128, 255} {
			if got := Write(d, word); got != d {
				t.Fatal(d, word, got)
			}
		}
		for _, set := range []uint64{0, v1, all64} {
			if got := Ask(d, set); got != d {
				t.Fatal(d, set, got)
			}
		}
	})
}

// P7.1: a break needs a valid state first, and then StLive.
func TestBreak(t *testing.T) {
	states(func(_ shape, d api.Dev, good bool) {
		want, err := d, api.OK
		want.Status |= 64
		if d.Status&4 == 0 {
			want, err = api.Dev{}, api.ErrState
		}
		if !good {
			want, err = api.Dev{}, api.ErrArg
		}
		if got, e := Break(d); got != want || e != err {
			t.Fatal(d, got, e)
		}
	})
	wrong(func(d api.Dev) {
		if got, e := Break(d); got != (api.Dev{}) || e != api.ErrArg {
			t.Fatal(d, got, e)
		}
	})
}

// P7.1: a device that broke can break again, and stays as it is.
func TestBreakTwice(t *testing.T) {
	once, e := Break(live(t))
	twice, again := Break(once)
	if e != api.OK || again != api.OK || once.Status != 79 || twice != once {
		t.Error(once, e, twice, again)
	}
}

// P7.1: a device runs if it is live, and neither broken nor failed.
func TestRuns(t *testing.T) {
	states(func(_ shape, d api.Dev, good bool) {
		want := good && d.Status&4 != 0 && d.Status&64 == 0 && d.Status&128 == 0
		if Runs(d) != want {
			t.Fatal(d, want)
		}
	})
	wrong(func(d api.Dev) {
		if Runs(d) {
			t.Fatal(d)
		}
	})
	d := live(t)
	broken, _ := Break(d)
	if !Runs(d) || Runs(broken) || Runs(Write(d, 128)) || Runs(Write(d, 0)) {
		t.Error(d, broken)
	}
}

// P7.1: features are fixed with StFeat.
func TestFixed(t *testing.T) {
	states(func(_ shape, d api.Dev, good bool) {
		want, is := d.Guest, true
		if !good || d.Status&8 == 0 {
			want, is = 0, false
		}
		if got, ok := Fixed(d); got != want || ok != is {
			t.Fatal(d, got, ok)
		}
	})
	wrong(func(d api.Dev) {
		if got, ok := Fixed(d); got != 0 || ok {
			t.Fatal(d, got, ok)
		}
	})
}

// P7.2: what Init returns hangs on the offer and on what is wanted, and not on
// the state before.
func TestInit(t *testing.T) {
	states(func(_ shape, d api.Dev, good bool) {
		for _, want := range []uint64{0, v1, event, mac, ctrl, rx, own, flush, 1, mac | ctrl | own, all64 &^ v1, all64} {
			got, e := Init(d, want)
			if !good {
				if got != (api.Dev{}) || e != api.ErrArg {
					t.Fatal(d, want, got, e)
				}
				continue
			}
			if e != api.OK || got.Kind != d.Kind || got.Offer != d.Offer || got.Status != 15 || !Runs(got) {
				t.Fatal(d, want, got, e)
			}
		}
	})
	wrong(func(d api.Dev) {
		if got, e := Init(d, v1); got != (api.Dev{}) || e != api.ErrArg {
			t.Fatal(d, got, e)
		}
	})
}

// P7.2: the features are the greatest accepted set of what is wanted.
func TestInitBest(t *testing.T) {
	for _, s := range shapes {
		for _, want := range append(s.guests(), mac|ctrl|own, rx, all64&^v1) {
			best := uint64(0)
			for _, set := range s.accepted {
				if set&^(want|v1) == 0 {
					best |= set
				}
			}
			d, e := New(s.kind, s.offer)
			got, err := Init(d, want)
			if e != api.OK || err != api.OK || got != (api.Dev{Kind: s.kind, Offer: s.offer, Guest: best, Status: 15}) {
				t.Errorf("%v %x: %v %v", s, want, got, err)
			}
		}
	}
}

// P7.2: a device that broke, failed, or was given other features begins anew.
func TestInitAgain(t *testing.T) {
	d := live(t)
	broken, _ := Break(d)
	for _, from := range []api.Dev{d, broken, Write(d, 128), Write(broken, 255), Ask(Write(Write(d, 0), 3), all64)} {
		got, e := Init(from, flush)
		if e != api.OK || got != (api.Dev{Kind: api.KindBlk, Offer: v1 | flush, Guest: v1 | flush, Status: 15}) {
			t.Error(from, got, e)
		}
	}
}

// P7.1, P7.2: the examples of the chapter.
func TestExamples(t *testing.T) {
	d, e := New(api.KindBlk, v1|flush)
	if e != api.OK {
		t.Fatal(e)
	}
	if got := Write(Write(Ask(Write(Write(d, 1), 3), v1), 11), 15); got.Status != 15 {
		t.Error(got)
	}
	if got := Write(Ask(Write(Write(d, 1), 3), flush), 11); got.Status != 3 {
		t.Error(got)
	}
	if got := Write(d, 15); got.Status != 3 {
		t.Error(got)
	}
}

// moves calls see with each state that one call reaches from a state, and
// whether that call was a reset.
func (s shape) moves(d api.Dev, see func(next api.Dev, reset bool)) {
	for word := range 256 {
		see(Write(d, byte(word)), word == 0)
	}
	for _, set := range s.guests() {
		see(Ask(d, set), false)
	}
	if next, e := Break(d); e == api.OK {
		see(next, false)
	}
}

// holds reports whether the theorems hold for a state that was reached.
func (s shape) holds(d api.Dev) bool {
	isFixed, isLive := d.Status&8 != 0, d.Status&4 != 0
	guest, is := Fixed(d)
	return Check(d) == api.OK && is == isFixed && (!is || guest == d.Guest) &&
		(!isFixed || contains(s.accepted, d.Guest)) && (isFixed || !isLive)
}

// P7.3: the theorems hold in each state that can be reached from a new device,
// and each valid state can be.
func TestTheorems(t *testing.T) {
	for _, s := range shapes {
		first, _ := New(s.kind, s.offer)
		seen, work := map[api.Dev]bool{first: true}, []api.Dev{first}
		for len(work) > 0 {
			d := work[0]
			work = work[1:]
			if !s.holds(d) {
				t.Fatal(d)
			}
			was, fixed := Fixed(d)
			s.moves(d, func(next api.Dev, reset bool) {
				if now, is := Fixed(next); fixed && !reset && (!is || now != was) {
					t.Fatal(d, next)
				}
				if !seen[next] {
					seen[next] = true
					work = append(work, next)
				}
			})
		}
		for _, guest := range s.guests() {
			for status := range 256 {
				d := api.Dev{Kind: s.kind, Offer: s.offer, Guest: guest, Status: byte(status)}
				if seen[d] != s.fits(d.Status, guest) {
					t.Error(d, seen[d])
				}
			}
		}
	}
}
