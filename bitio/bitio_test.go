package bitio_test

import (
	"math"
	"math/rand"
	"slices"
	"strings"
	"testing"

	"swingle/bitio"
)

// stands fails if a reader is at another place, or as fine, as it should be.
func stands(t *testing.T, r *bitio.Reader, left, used int, fine bool) {
	t.Helper()
	if r.Left() != left || r.Used() != used || r.Fine() != fine {
		t.Errorf("left %d, used %d, fine %v; not %d, %d, %v", r.Left(), r.Used(), r.Fine(), left, used, fine)
	}
}

// P3.1

func TestBitsComeTheLowestFirst(t *testing.T) {
	r := bitio.Read("\x05\x80")
	for i, want := range []uint32{1, 0, 1, 0, 0, 0, 0, 0, 0, 0, 0, 0, 0, 0, 0, 1} {
		if v := r.Bits(1); v != want {
			t.Errorf("bit %d is %d", i, v)
		}
	}
	stands(t, r, 0, 2, true)
}

func TestBitsTellANumberTheFirstBitAsItsLowest(t *testing.T) {
	r := bitio.Read("\xd5\x12\x34\x56\x78\x9a\xbc\xde")
	stands(t, r, 64, 0, true)
	for _, c := range []struct {
		n          int
		want       uint32
		left, used int
	}{
		{0, 0, 64, 0},
		{3, 5, 61, 1},
		{5, 0x1a, 56, 1},
		{0, 0, 56, 1},
		{1, 0, 55, 2},
		{32, 0x3c2b1a09, 23, 6},
		{23, 0x6f5e4d, 0, 8},
		{0, 0, 0, 8},
	} {
		if v := r.Bits(c.n); v != c.want {
			t.Errorf("Bits(%d) is %x, not %x", c.n, v, c.want)
		}
		stands(t, r, c.left, c.used, true)
	}
}

func TestBitsOfAllWidthsAtAllPlaces(t *testing.T) {
	s := "\x93\x5a\xff\x00\x81\x7e\xc3\x3c\x0f\xa5"
	bit := func(i int) uint32 { return uint32(s[i/8]>>(i%8)) & 1 }
	for skip := range 32 {
		for n := range 33 {
			r := bitio.Read(s)
			r.Bits(skip)
			var want uint32
			for i := range n {
				want |= bit(skip+i) << i
			}
			if v := r.Bits(n); v != want {
				t.Fatalf("%d bits from %d on are %x, not %x", n, skip, v, want)
			}
			stands(t, r, len(s)*8-skip-n, (skip+n+7)/8, true)
		}
	}
}

func TestAlignGoesToTheNextByte(t *testing.T) {
	r := bitio.Read("\xff\x01\x02")
	r.Align()
	stands(t, r, 24, 0, true)
	r.Bits(1)
	stands(t, r, 23, 1, true)
	r.Align()
	stands(t, r, 16, 1, true)
	r.Align()
	stands(t, r, 16, 1, true)
	if v := r.Bits(7); v != 1 {
		t.Error(v)
	}
	r.Align()
	if v := r.Bits(8); v != 2 {
		t.Error(v)
	}
	r.Align()
	stands(t, r, 0, 3, true)
}

func TestTextIsTheNextWholeBytes(t *testing.T) {
	r := bitio.Read("\xffabcd")
	r.Bits(3)
	if s := r.Text(0); s != "" {
		t.Error(s)
	}
	stands(t, r, 32, 1, true)
	if s := r.Text(2); s != "ab" {
		t.Error(s)
	}
	stands(t, r, 16, 3, true)
	if v := r.Bits(8); v != 'c' {
		t.Error(v)
	}
	if s := r.Text(1); s != "d" {
		t.Error(s)
	}
	if s := r.Text(0); s != "" {
		t.Error(s)
	}
	stands(t, r, 0, 5, true)
}

func TestReaderThatIsNoLongerFineGoesNoFurther(t *testing.T) {
	for name, breaks := range map[string]func(r *bitio.Reader) bool{
		"Bits below 0":         func(r *bitio.Reader) bool { return r.Bits(-1) == 0 },
		"Bits of the least":    func(r *bitio.Reader) bool { return r.Bits(math.MinInt) == 0 },
		"Bits above 32":        func(r *bitio.Reader) bool { return r.Bits(33) == 0 },
		"Bits of the greatest": func(r *bitio.Reader) bool { return r.Bits(math.MaxInt) == 0 },
		"Text below 0":         func(r *bitio.Reader) bool { return r.Text(-1) == "" },
		"Text of the least":    func(r *bitio.Reader) bool { return r.Text(math.MinInt) == "" },
		"Text of too many":     func(r *bitio.Reader) bool { return r.Text(8) == "" },
		"Text of the greatest": func(r *bitio.Reader) bool { return r.Text(math.MaxInt) == "" },
	} {
		t.Run(name, func(t *testing.T) {
			r := bitio.Read("\xff1234567")
			r.Bits(8)
			if !breaks(r) {
				t.Error("something is told of what breaks it")
			}
			stands(t, r, 56, 1, false)
			if r.Bits(1) != 0 || r.Bits(0) != 0 || r.Text(1) != "" || r.Text(0) != "" {
				t.Error("something is told behind it")
			}
			r.Align()
			stands(t, r, 56, 1, false)
		})
	}
}

func TestReaderBreaksWhereThereAreFewer(t *testing.T) {
	r := bitio.Read("\xff\xff")
	r.Bits(3)
	if v := r.Bits(14); v != 0 {
		t.Error(v)
	}
	stands(t, r, 13, 1, false)
	r.Align()
	stands(t, r, 13, 1, false)
	r = bitio.Read("\xff\xff")
	if v := r.Bits(16); v != 0xffff {
		t.Error(v)
	}
	if v := r.Bits(1); v != 0 {
		t.Error(v)
	}
	stands(t, r, 0, 2, false)
}

func TestTextIsAlignedAheadOfBeingRefused(t *testing.T) {
	r := bitio.Read("\xffab")
	r.Bits(1)
	if s := r.Text(3); s != "" {
		t.Error(s)
	}
	stands(t, r, 16, 1, false)
}

func TestReaderOfNothing(t *testing.T) {
	r := bitio.Read("")
	r.Align()
	if r.Bits(0) != 0 || r.Text(0) != "" {
		t.Error("something of nothing")
	}
	stands(t, r, 0, 0, true)
	if r.Bits(1) != 0 {
		t.Error("a bit of nothing")
	}
	stands(t, r, 0, 0, false)
}

func TestNilReader(t *testing.T) {
	var r *bitio.Reader
	r.Align()
	if r.Bits(1) != 0 || r.Bits(0) != 0 || r.Bits(-1) != 0 || r.Text(0) != "" || r.Text(1) != "" {
		t.Error("something of nil")
	}
	stands(t, r, 0, 0, false)
}

// P3.2

// holds fails if a writer has other bits.
func holds(t *testing.T, w *bitio.Writer, long int, bytes string) {
	t.Helper()
	if w.Len() != long || w.Bytes() != bytes {
		t.Errorf("%d bits %x, not %d bits %x", w.Len(), w.Bytes(), long, bytes)
	}
}

func TestWriterPutsBitsBehind(t *testing.T) {
	var w bitio.Writer
	holds(t, &w, 0, "")
	w.Bits(1, 1)
	w.Bits(0, 1)
	w.Bits(1, 1)
	holds(t, &w, 3, "\x05")
	w.Bits(0xffffffff, 0)
	holds(t, &w, 3, "\x05")
	w.Bits(0xffffffe0, 5)
	holds(t, &w, 8, "\x05")
	w.Bits(0x12345678, 32)
	holds(t, &w, 40, "\x05\x78\x56\x34\x12")
	w.Bits(1, 4)
	w.Bits(0x89abcdef, 32)
	holds(t, &w, 76, "\x05\x78\x56\x34\x12\xf1\xde\xbc\x9a\x08")
}

func TestWriterTakesTheNearerWidth(t *testing.T) {
	var w bitio.Writer
	w.Bits(0xffffffff, -1)
	w.Bits(0xffffffff, math.MinInt)
	holds(t, &w, 0, "")
	w.Bits(0xffffffff, 33)
	holds(t, &w, 32, "\xff\xff\xff\xff")
	w.Bits(0x01020304, math.MaxInt)
	holds(t, &w, 64, "\xff\xff\xff\xff\x04\x03\x02\x01")
}

func TestWriterAlignsWithNoughts(t *testing.T) {
	var w bitio.Writer
	w.Align()
	holds(t, &w, 0, "")
	w.Bits(3, 2)
	w.Align()
	holds(t, &w, 8, "\x03")
	w.Align()
	holds(t, &w, 8, "\x03")
	w.Bits(0x7f, 7)
	w.Align()
	w.Bits(1, 1)
	holds(t, &w, 17, "\x03\x7f\x01")
}

func TestWriterPutsTextsAtBytes(t *testing.T) {
	var w bitio.Writer
	w.Text("a")
	holds(t, &w, 8, "a")
	w.Bits(1, 1)
	w.Text("")
	holds(t, &w, 16, "a\x01")
	w.Bits(1, 1)
	w.Text("bc")
	holds(t, &w, 40, "a\x01\x01bc")
	w.Bits(2, 2)
	holds(t, &w, 42, "a\x01\x01bc\x02")
}

func TestBytesThatWereToldStay(t *testing.T) {
	var w bitio.Writer
	w.Bits(1, 9)
	before := w.Bytes()
	w.Bits(0xff, 8)
	w.Text("z")
	if before != "\x01\x00" {
		t.Errorf("%x", before)
	}
	holds(t, &w, 32, "\x01\xfe\x01z")
}

func TestNilWriter(t *testing.T) {
	var w *bitio.Writer
	w.Bits(1, 1)
	w.Bits(1, -1)
	w.Align()
	w.Text("a")
	holds(t, w, 0, "")
}

func TestAllTellsTheBits(t *testing.T) {
	var got []uint32
	all := bitio.All("\x05\xfe")
	for v := range all {
		got = append(got, v)
	}
	want := []uint32{1, 0, 1, 0, 0, 0, 0, 0, 0, 1, 1, 1, 1, 1, 1, 1}
	if !slices.Equal(got, want) {
		t.Error(got)
	}
	if !slices.Equal(slices.Collect(all), want) {
		t.Error("told again they are others")
	}
	for range bitio.All("") {
		t.Error("a bit of nothing")
	}
}

func TestAllEndsWithWhoAsks(t *testing.T) {
	for stop := range 17 {
		many := 0
		bitio.All("ab")(func(uint32) bool {
			many++
			return many <= stop
		})
		if want := min(stop+1, 16); many != want {
			t.Errorf("%d told, not %d", many, want)
		}
	}
}

// P3.3

func TestWhatWasWrittenIsRead(t *testing.T) {
	type step struct {
		kind, n int
		v       uint32
		s       string
	}
	dice := rand.New(rand.NewSource(3))
	for range 300 {
		var w bitio.Writer
		var steps []step
		for range dice.Intn(30) {
			x := step{kind: dice.Intn(5), n: dice.Intn(33), v: dice.Uint32()}
			switch x.kind {
			case 0:
				w.Align()
			case 1:
				x.s = strings.Repeat("swingle", 3)[:dice.Intn(20)]
				w.Text(x.s)
			default:
				w.Bits(x.v, x.n)
			}
			steps = append(steps, x)
		}
		r := bitio.Read(w.Bytes())
		for _, x := range steps {
			switch x.kind {
			case 0:
				r.Align()
			case 1:
				if s := r.Text(len(x.s)); s != x.s {
					t.Fatalf("%q was written, %q is read", x.s, s)
				}
			default:
				if v, want := r.Bits(x.n), uint32(uint64(x.v)&(1<<x.n-1)); v != want {
					t.Fatalf("%x was written, %x is read", want, v)
				}
			}
		}
		if !r.Fine() || r.Left() != len(w.Bytes())*8-w.Len() || r.Left() > 7 {
			t.Fatal("it isn't at the end")
		}
		for v := range r.Left() {
			if r.Bits(1) != 0 {
				t.Fatal("a bit behind the end, in a round of", v)
			}
		}
	}
}
