package desc

import (
	"bytes"
	"math"
	"slices"
	"testing"

	"dumbwaiter/api"
)

// The flags are typed here and numbers in package api: they are the same.
var (
	_ = [1]int{}[bitAvail-api.FlagAvail]
	_ = [1]int{}[bitUsed-api.FlagUsed]
)

var (
	bools  = []bool{false, true}
	words8 = []uint64{0, 1, 0x0123456789abcdef, 1 << 63, math.MaxUint64}
	words4 = []uint32{0, 1, 0x89abcdef, 1 << 31, math.MaxUint32}
	words2 = []uint16{0, 1, 0x8182, 1 << 15, math.MaxUint16}
)

// le returns the bytes of words, each a pair of its number and its value, the
// lowest byte first.
func le(words ...[2]uint64) []byte {
	var b []byte
	for _, w := range words {
		for v, i := w[1], uint64(0); i < w[0]; i++ {
			b = append(b, byte(v%256))
			v /= 256
		}
	}
	return b
}

func bytesOf(d api.Desc) []byte {
	return le([2]uint64{8, d.Addr}, [2]uint64{4, uint64(d.Len)}, [2]uint64{2, uint64(d.Flags)}, [2]uint64{2, uint64(d.Next)})
}

func bytesOfPacked(d api.Packed) []byte {
	return le([2]uint64{8, d.Addr}, [2]uint64{4, uint64(d.Len)}, [2]uint64{2, uint64(d.ID)}, [2]uint64{2, uint64(d.Flags)})
}

func descs() []api.Desc {
	var l []api.Desc
	for _, a := range words8 {
		for _, n := range words4 {
			for _, f := range words2 {
				for _, x := range words2 {
					l = append(l, api.Desc{Addr: a, Len: n, Flags: f, Next: x})
				}
			}
		}
	}
	return l
}

// P3.1: the example of the chapter.
func TestBytesExample(t *testing.T) {
	want := []byte{0, 0x10, 0, 0, 0, 0, 0, 0, 0x20, 0, 0, 0, 1, 0, 5, 0}
	if b := Bytes(api.Desc{Addr: 0x1000, Len: 0x20, Flags: api.FlagNext, Next: 5}); !bytes.Equal(b, want) {
		t.Errorf("%x", b)
	}
}

// P3.1, P3.3: each field has its place, the lowest byte first, and is decoded.
func TestDescriptors(t *testing.T) {
	for _, d := range descs() {
		b := Bytes(d)
		if !bytes.Equal(b, bytesOf(d)) {
			t.Fatalf("%v: %x", d, b)
		}
		if x, e := Read(b); x != d || e != api.OK {
			t.Fatal(d, x, e)
		}
	}
}

// P3.1, P3.3: the same of packed descriptors, where ID comes before Flags.
func TestPackedDescriptors(t *testing.T) {
	for _, d := range descs() {
		p := api.Packed{Addr: d.Addr, Len: d.Len, ID: d.Flags, Flags: d.Next}
		b := PackedBytes(p)
		if !bytes.Equal(b, bytesOfPacked(p)) {
			t.Fatalf("%v: %x", p, b)
		}
		if x, e := ReadPacked(b); x != p || e != api.OK {
			t.Fatal(p, x, e)
		}
	}
}

// P3.1: any other number of bytes is ErrBad, whatever lies behind them.
func TestReadWrongLength(t *testing.T) {
	for n := range 50 {
		b := slices.Repeat([]byte{0xff}, 60)[:n]
		d, e := Read(b)
		p, f := ReadPacked(b)
		if n == 16 {
			if d != (api.Desc{Addr: math.MaxUint64, Len: math.MaxUint32, Flags: math.MaxUint16, Next: math.MaxUint16}) || e != api.OK {
				t.Error(d, e)
			}
			if p != (api.Packed{Addr: math.MaxUint64, Len: math.MaxUint32, ID: math.MaxUint16, Flags: math.MaxUint16}) || f != api.OK {
				t.Error(p, f)
			}
			continue
		}
		if d != (api.Desc{}) || e != api.ErrBad || p != (api.Packed{}) || f != api.ErrBad {
			t.Error(n, d, e, p, f)
		}
	}
	if d, e := Read(nil); d != (api.Desc{}) || e != api.ErrBad {
		t.Error(d, e)
	}
	if p, e := ReadPacked(nil); p != (api.Packed{}) || e != api.ErrBad {
		t.Error(p, e)
	}
}

// P3.1, P3.3: a used element is a word of eight bytes.
func TestUsedElements(t *testing.T) {
	for _, id := range words4 {
		for _, n := range words4 {
			u := api.Used{ID: id, Len: n}
			w := UsedWord(u)
			if !bytes.Equal(le([2]uint64{8, w}), le([2]uint64{4, uint64(id)}, [2]uint64{4, uint64(n)})) {
				t.Errorf("%v: %x", u, w)
			}
			if x := ReadUsed(w); x != u {
				t.Error(u, x)
			}
		}
	}
	for _, w := range words8 {
		if x := UsedWord(ReadUsed(w)); x != w {
			t.Errorf("%x: %x", w, x)
		}
	}
}

// P3.1, P3.3: an event is the low four bytes of a word; the others are 0, and
// are not read.
func TestEvents(t *testing.T) {
	for _, off := range words2 {
		for _, f := range append(words2, api.EventOn, api.EventOff, api.EventAt) {
			v := api.Event{Off: off, Flags: f}
			w := EventWord(v)
			if !bytes.Equal(le([2]uint64{8, w}), le([2]uint64{2, uint64(off)}, [2]uint64{2, uint64(f)}, [2]uint64{4, 0})) {
				t.Errorf("%v: %x", v, w)
			}
			for _, high := range words4 {
				if x := ReadEvent(w | uint64(high)<<32); x != v {
					t.Error(v, high, x)
				}
			}
		}
	}
}

// P3.2: the examples of the chapter.
func TestMarkExample(t *testing.T) {
	if m := Mark(2, true, false); m != 0x0082 {
		t.Errorf("%x", m)
	}
	if m := Mark(2, true, true); m != 0x8082 {
		t.Errorf("%x", m)
	}
}

// P3.2: what is available, and what is used, depends on two flags alone.
func TestAvailUsed(t *testing.T) {
	for f := range 1 << 16 {
		flags := uint16(f)
		a, u := f/(1<<7)%2 == 1, f/(1<<15) == 1
		for _, wrap := range bools {
			if x := Avail(flags, wrap); x != (a == wrap && u == !wrap) {
				t.Fatalf("Avail %x %v: %v", f, wrap, x)
			}
			if x := Used(flags, wrap); x != (a == wrap && u == wrap) {
				t.Fatalf("Used %x %v: %v", f, wrap, x)
			}
		}
	}
}

// P3.2, P3.3: Mark makes exactly what it says, and changes no other flag.
func TestMark(t *testing.T) {
	for f := range 1 << 16 {
		flags := uint16(f)
		for _, wrap := range bools {
			for _, used := range bools {
				m := Mark(flags, wrap, used)
				if (m^flags)&^(api.FlagAvail|api.FlagUsed) != 0 {
					t.Fatalf("%x %v %v: %x", f, wrap, used, m)
				}
				if Used(m, wrap) != used || Avail(m, wrap) == used || Used(m, !wrap) || Avail(m, !wrap) {
					t.Fatalf("%x %v %v: %x", f, wrap, used, m)
				}
			}
		}
	}
}

// P3.3: what is available for a wrap counter is used for neither.
func TestOneSide(t *testing.T) {
	for f := range 1 << 16 {
		for _, wrap := range bools {
			if flags := uint16(f); Avail(flags, wrap) && (Used(flags, wrap) || Used(flags, !wrap) || Avail(flags, !wrap)) {
				t.Fatalf("%x %v", f, wrap)
			}
		}
	}
}

// P3.2, P3.3: a table is all descriptors, one after the other.
func TestTable(t *testing.T) {
	all := descs()
	for _, n := range []int{0, 1, 2, 3, 64, len(all)} {
		l := all[:n]
		var want []byte
		for _, d := range l {
			want = append(want, bytesOf(d)...)
		}
		b := Table(l)
		if !bytes.Equal(b, want) {
			t.Fatal(n)
		}
		if x, e := ReadTable(b); !slices.Equal(x, l) || e != api.OK {
			t.Fatal(n, e)
		}
	}
}

// P3.2: bytes that end within a descriptor are ErrBad.
func TestReadTableWrongLength(t *testing.T) {
	for n := range 100 {
		l, e := ReadTable(slices.Repeat([]byte{0xff}, 120)[:n])
		if n%16 == 0 && (len(l) != n/16 || e != api.OK) || n%16 != 0 && (len(l) != 0 || e != api.ErrBad) {
			t.Error(n, l, e)
		}
	}
	if b := Table(nil); len(b) != 0 {
		t.Error(b)
	}
	if l, e := ReadTable(nil); len(l) != 0 || e != api.OK {
		t.Error(l, e)
	}
}

// P3.1, P3.2: results share no memory with each other, nor with arguments, and
// the arguments are as they were.
func TestNothingShared(t *testing.T) {
	d := api.Desc{Addr: 1, Len: 2, Flags: 3, Next: 4}
	l := []api.Desc{d, d, d}
	spoil(Bytes(d))
	spoil(PackedBytes(api.Packed{Addr: 1}))
	spoil(Table(l))
	if !bytes.Equal(Bytes(d), bytesOf(d)) || !bytes.Equal(PackedBytes(api.Packed{Addr: 1}), bytesOfPacked(api.Packed{Addr: 1})) {
		t.Error("bytes")
	}
	if l[0] != d || l[1] != d || l[2] != d {
		t.Error(l)
	}
	b := Table(l)
	kept := slices.Clone(b)
	x, e := ReadTable(b)
	spoil(b)
	if !slices.Equal(x, l) || e != api.OK {
		t.Error(x, e)
	}
	for i := range x[:cap(x)] {
		x[:cap(x)][i] = api.Desc{}
	}
	if again, e := ReadTable(kept); !slices.Equal(again, l) || e != api.OK {
		t.Error(again, e)
	}
}

// P3.2: what lies behind the end of an argument is neither read nor written.
func TestSpareCapacity(t *testing.T) {
	l := make([]api.Desc, 1, 3)
	if b := Table(l); len(b) != 16 || l[:3][1] != (api.Desc{}) {
		t.Error(b, l[:3])
	}
	b := slices.Repeat([]byte{7}, 48)
	if x, e := ReadTable(b[:16]); len(x) != 1 || e != api.OK {
		t.Error(x, e)
	}
	if !bytes.Equal(b, slices.Repeat([]byte{7}, 48)) {
		t.Error(b)
	}
}

// spoil overwrites bytes, also those of the spare capacity.
func spoil(b []byte) {
	b = b[:cap(b)]
	for i := range b {
		b[i] ^= 0x55
	}
}
