package huff_test

import (
	"math"
	"math/rand"
	"slices"
	"strings"
	"testing"

	"swingle/bitio"
	"swingle/huff"
)

// repeated is a row of as many lengths, all the same.
func repeated(n, many int) []int { return slices.Repeat([]int{n}, many) }

// fixed is the first lengths that RFC 1951 fixes.
func fixed() []int {
	return slices.Concat(repeated(8, 144), repeated(9, 112), repeated(7, 24), repeated(8, 8))
}

// long is a code of each length, and two of the longest one.
func long() []int { return []int{1, 2, 3, 4, 5, 6, 7, 8, 9, 10, 11, 12, 13, 14, 15, 15} }

// wholes, unders, empties and overs are lengths of the four kinds.
func wholes() [][]int {
	return [][]int{{1, 1}, {2, 1, 2}, {3, 3, 3, 3, 3, 2, 4, 4}, {0, 1, 0, 0, 2, 2, 0}, repeated(5, 32), repeated(8, 256), fixed(), long(), append(repeated(0, 284), long()...)}
}

func unders() [][]int {
	return [][]int{{1}, {0, 0, 7}, {15}, {2, 2, 2}, {3, 1}, {15, 1}, {4, 0, 2, 6}, repeated(15, 300), repeated(9, 300), long()[1:]}
}

func empties() [][]int { return [][]int{nil, {}, {0}, {0, 0, 0}, repeated(0, 300)} }

func overs() [][]int {
	return [][]int{
		{1, 1, 1}, {1, 1, 15}, {2, 2, 2, 2, 2}, append(long(), 15), repeated(8, 257), repeated(1, 300),
		{-1}, {16}, {1, 16}, {1, -1}, {1, 1, 16}, {0, -1}, {math.MinInt}, {math.MaxInt}, {2, math.MinInt, 2},
		repeated(0, 301), repeated(15, 301), append(repeated(0, 300), 1), append([]int{1, 1}, repeated(0, 299)...), repeated(0, 1000),
	}
}

// dealt is lengths that aren't Over.
func dealt(dice *rand.Rand) []int {
	lens := make([]int, dice.Intn(60)+1)
	room := 1 << huff.Longest
	for _, i := range dice.Perm(len(lens)) {
		n := dice.Intn(huff.Longest + 1)
		if n > 0 && 1<<(huff.Longest-n) <= room {
			lens[i] = n
			room -= 1 << (huff.Longest - n)
		}
	}
	return lens
}

// spelt is a symbol's code as signs, by the words of P4.1: it looks at which symbols come ahead of it.
func spelt(lens []int, symbol int) string {
	var order []int
	for n := 1; n <= huff.Longest; n++ {
		for s, l := range lens {
			if l == n {
				order = append(order, s)
			}
		}
	}
	code, last := uint32(0), lens[order[0]]
	for i, s := range order {
		if i > 0 {
			code = (code + 1) << (lens[s] - last)
			last = lens[s]
		}
		if s == symbol {
			break
		}
	}
	return signsOf(code, lens[symbol])
}

// signsOf is the lowest n bits of a code as signs, the highest first.
func signsOf(code uint32, n int) string {
	var signs []byte
	for i := n - 1; i >= 0; i-- {
		signs = append(signs, byte('0'+code>>i&1))
	}
	return string(signs)
}

// packed is bytes of bits that are written as signs.
func packed(signs string) string {
	var w bitio.Writer
	for _, sign := range signs {
		w.Bits(uint32(sign-'0'), 1)
	}
	return w.Bytes()
}

// P4.1

func TestConstants(t *testing.T) {
	if huff.Longest != 15 || huff.Empty != 0 || huff.Whole != 1 || huff.Under != 2 || huff.Over != 3 {
		t.Error("a constant is another one")
	}
}

func TestKind(t *testing.T) {
	for kind, rows := range map[int][][]int{huff.Whole: wholes(), huff.Under: unders(), huff.Empty: empties(), huff.Over: overs()} {
		for _, lens := range rows {
			if got := huff.Kind(lens); got != kind {
				t.Errorf("%v: %d, not %d", lens, got, kind)
			}
		}
	}
}

func TestKindIsTurnedByOneCode(t *testing.T) {
	for _, lens := range wholes() {
		if len(lens) == 300 {
			continue
		}
		if k := huff.Kind(append(slices.Clone(lens), 15)); k != huff.Over {
			t.Errorf("%v and 15: %d", lens, k)
		}
		less := slices.Clone(lens)
		less[slices.Index(less, slices.Max(less))] = 0
		if k := huff.Kind(less); k != huff.Under {
			t.Errorf("%v: %d", less, k)
		}
	}
}

func TestCodes(t *testing.T) {
	for _, c := range []struct {
		lens []int
		want []uint32
	}{
		{[]int{2, 1, 2}, []uint32{0b10, 0b0, 0b11}},
		{[]int{3, 3, 3, 3, 3, 2, 4, 4}, []uint32{0b010, 0b011, 0b100, 0b101, 0b110, 0b00, 0b1110, 0b1111}},
		{[]int{0, 1, 0, 0, 2, 2, 0}, []uint32{0, 0b0, 0, 0, 0b10, 0b11, 0}},
		{[]int{1}, []uint32{0}},
		{[]int{15}, []uint32{0}},
		{[]int{3, 1}, []uint32{0b100, 0b0}},
		{[]int{15, 1}, []uint32{1 << 14, 0}},
		{[]int{4, 0, 2, 6}, []uint32{0b0100, 0, 0b00, 0b010100}},
		{[]int{2, 2, 2}, []uint32{0b00, 0b01, 0b10}},
		{[]int{0, 0, 0}, []uint32{0, 0, 0}},
		{nil, nil},
	} {
		if got := huff.Codes(c.lens); !slices.Equal(got, c.want) {
			t.Errorf("%v: %b, not %b", c.lens, got, c.want)
		}
	}
}

func TestCodesThatAreFixed(t *testing.T) {
	codes := huff.Codes(fixed())
	for symbol, want := range map[int]uint32{0: 0b00110000, 143: 0b10111111, 144: 0b110010000, 255: 0b111111111, 256: 0, 279: 0b0010111, 280: 0b11000000, 287: 0b11000111} {
		if codes[symbol] != want {
			t.Errorf("%d: %b, not %b", symbol, codes[symbol], want)
		}
	}
}

func TestCodesOfAll(t *testing.T) {
	dice := rand.New(rand.NewSource(41))
	rows := slices.Concat(wholes(), unders())
	for range 300 {
		rows = append(rows, dealt(dice))
	}
	for _, lens := range rows {
		codes := huff.Codes(lens)
		if len(codes) != len(lens) {
			t.Fatalf("%v: %d codes", lens, len(codes))
		}
		for symbol, n := range lens {
			if n == 0 && codes[symbol] != 0 {
				t.Fatalf("%v: %d has %b", lens, symbol, codes[symbol])
			}
			if n == 0 || len(lens) == 300 && symbol%37 != 0 {
				continue
			}
			if want := spelt(lens, symbol); signsOf(codes[symbol], n) != want || codes[symbol]>>n != 0 {
				t.Fatalf("%v: %d has %b, not %s", lens, symbol, codes[symbol], want)
			}
		}
	}
}

func TestNoCodesOfWhatIsOver(t *testing.T) {
	for _, lens := range overs() {
		if got := huff.Codes(lens); len(got) != 0 {
			t.Errorf("%v: %v", lens, got)
		}
	}
}

func TestTurned(t *testing.T) {
	for _, c := range []struct {
		code uint32
		n    int
		want uint32
	}{
		{0b110, 3, 0b011}, {0b110, 4, 0b0110}, {0b110, 2, 0b01}, {0b1, 1, 1}, {0b10, 1, 0},
		{0xffffffff, 0, 0}, {0xffffffff, 5, 0b11111}, {0xffffffff, 32, 0xffffffff}, {1, 32, 1 << 31}, {0x80000001, 31, 1 << 30},
		{0xffffffff, -1, 0}, {0xffffffff, math.MinInt, 0}, {0x00000002, 33, 1 << 30}, {0x12345678, math.MaxInt, 0x1e6a2c48},
	} {
		if got := huff.Turned(c.code, c.n); got != c.want {
			t.Errorf("%b, %d: %b, not %b", c.code, c.n, got, c.want)
		}
	}
}

func TestTurnedTwice(t *testing.T) {
	dice := rand.New(rand.NewSource(42))
	for n := range 33 {
		for range 20 {
			code := dice.Uint32()
			low := uint32(uint64(code) & (1<<n - 1))
			if got := huff.Turned(huff.Turned(code, n), n); got != low {
				t.Fatalf("%x, %d: %x, not %x", code, n, got, low)
			}
		}
	}
}

// P4.2

func TestNew(t *testing.T) {
	for _, lens := range slices.Concat(wholes(), unders()) {
		if d, ok := huff.New(lens); !ok || d == nil {
			t.Errorf("none of %v", lens)
		}
	}
	for _, lens := range slices.Concat(overs(), empties()) {
		if d, ok := huff.New(lens); ok || d != nil {
			t.Errorf("one of %v", lens)
		}
	}
}

func TestNextReadsTheHighestBitFirst(t *testing.T) {
	d, _ := huff.New([]int{3, 3, 3, 3, 3, 2, 4, 4})
	r := bitio.Read(packed("1110" + "00" + "011" + "110" + "1111" + "010"))
	left := r.Left()
	for _, c := range []struct{ symbol, n int }{{6, 4}, {5, 2}, {1, 3}, {4, 3}, {7, 4}, {0, 3}} {
		left -= c.n
		if got, ok := d.Next(r); !ok || got != c.symbol || r.Left() != left || !r.Fine() {
			t.Errorf("%d, %v, %d bits left; not %d, %d", got, ok, r.Left(), c.symbol, left)
		}
	}
}

func TestNextOfEachCode(t *testing.T) {
	for _, lens := range slices.Concat(wholes(), unders()) {
		d, _ := huff.New(lens)
		for symbol, n := range lens {
			if n == 0 || len(lens) > 200 && symbol%29 != 0 {
				continue
			}
			r := bitio.Read(packed(spelt(lens, symbol)))
			from := r.Left()
			if got, ok := d.Next(r); !ok || got != symbol || from-r.Left() != n {
				t.Errorf("%v: %d, %v behind %d bits; not %d behind %d", lens, got, ok, from-r.Left(), symbol, n)
			}
		}
	}
}

func TestNextOfBitsThatAreNoCode(t *testing.T) {
	for _, c := range []struct {
		lens  []int
		signs string
	}{
		{[]int{1}, "111111111111111"},
		{[]int{1}, "100000000000000"},
		{[]int{2, 2, 2}, "110000000000000"},
		{[]int{15}, "000000000000001"},
		{[]int{3, 1}, "101000000000000"},
		{long()[:15], "111111111111111"},
	} {
		d, _ := huff.New(c.lens)
		r := bitio.Read(packed(c.signs + "000000000"))
		if got, ok := d.Next(r); ok || got != 0 || !r.Fine() || r.Left() != 9 {
			t.Errorf("%v of %s: %d, %v, %d bits left, fine %v", c.lens, c.signs, got, ok, r.Left(), r.Fine())
		}
	}
}

func TestNextWhereThereAreNoMoreBits(t *testing.T) {
	whole, _ := huff.New(long())
	one, _ := huff.New([]int{1})
	for _, c := range []struct {
		d *huff.Decoder
		s string
	}{{whole, ""}, {whole, "\xff"}, {one, ""}, {one, "\xff"}} {
		r := bitio.Read(c.s)
		if got, ok := c.d.Next(r); ok || got != 0 || r.Fine() || r.Left() != 0 {
			t.Errorf("%q: %d, %v, fine %v, %d left", c.s, got, ok, r.Fine(), r.Left())
		}
	}
	// A code that ends with the text is read; none is made up of what isn't there any more.
	r := bitio.Read("\x7f")
	if got, ok := whole.Next(r); !ok || got != 7 {
		t.Error(got, ok)
	}
	if got, ok := whole.Next(r); ok || got != 0 {
		t.Error(got, ok)
	}
}

func TestNextOfReadersThatAreNotFine(t *testing.T) {
	d, _ := huff.New([]int{2, 1, 2})
	r := bitio.Read("\x00\x00")
	r.Bits(33)
	if got, ok := d.Next(r); ok || got != 0 || r.Left() != 16 {
		t.Error(got, ok, r.Left())
	}
	if got, ok := d.Next(nil); ok || got != 0 {
		t.Error("of nil", got, ok)
	}
}

func TestNilDecoder(t *testing.T) {
	var d *huff.Decoder
	r := bitio.Read("\x00\x00")
	if got, ok := d.Next(r); ok || got != 0 || r.Left() != 16 || !r.Fine() {
		t.Error(got, ok, r.Left())
	}
	if got, ok := d.Next(nil); ok || got != 0 {
		t.Error(got, ok)
	}
}

func TestDecoderKeepsNothingOfItsLengths(t *testing.T) {
	lens := []int{2, 1, 2}
	d, _ := huff.New(lens)
	lens[0], lens[1] = 1, 2
	if got, ok := d.Next(bitio.Read(packed("10"))); !ok || got != 0 {
		t.Error(got, ok)
	}
}

// P4.3

func TestWrite(t *testing.T) {
	for _, c := range []struct {
		lens  []int
		l     []int
		signs string
	}{
		{[]int{2, 1, 2}, []int{0, 1, 2, 2, 1}, "10" + "0" + "11" + "11" + "0"},
		{[]int{3, 3, 3, 3, 3, 2, 4, 4}, []int{6, 5, 1, 7}, "1110" + "00" + "011" + "1111"},
		{[]int{4, 0, 2, 6}, []int{3, 0, 2}, "010100" + "0100" + "00"},
		{[]int{1}, []int{0, 0, 0}, "000"},
		{[]int{2, 1, 2}, nil, ""},
		{long(), []int{15, 14, 0}, "111111111111111" + "111111111111110" + "0"},
	} {
		for _, ahead := range []string{"", "1", "0110101"} {
			var w bitio.Writer
			for _, sign := range ahead {
				w.Bits(uint32(sign-'0'), 1)
			}
			if !huff.Write(&w, c.lens, c.l...) || w.Len() != len(ahead)+len(c.signs) || w.Bytes() != packed(ahead+c.signs) {
				t.Errorf("%v of %v: %d bits %x, not %s", c.l, c.lens, w.Len(), w.Bytes(), ahead+c.signs)
			}
		}
	}
}

func TestWriteRefuses(t *testing.T) {
	refuses := func(lens []int, l ...int) {
		t.Helper()
		var w bitio.Writer
		w.Bits(5, 3)
		if huff.Write(&w, lens, l...) || w.Len() != 3 || w.Bytes() != "\x05" {
			t.Errorf("%v of %v: %d bits", l, lens, w.Len())
		}
	}
	for _, bad := range []int{-1, 3, 4, 7, 300, math.MinInt, math.MaxInt} {
		refuses([]int{2, 1, 2, 0}, bad)
		refuses([]int{2, 1, 2, 0}, 0, 1, bad)
		refuses([]int{2, 1, 2, 0}, bad, 0, 1)
	}
	for _, lens := range slices.Concat(overs(), empties()) {
		refuses(lens, 0)
		refuses(lens, 1)
		refuses(lens, 0, 0, 1)
	}
}

func TestWriteOfNoSymbols(t *testing.T) {
	for _, lens := range slices.Concat(wholes(), unders(), overs(), empties()) {
		var w bitio.Writer
		if !huff.Write(&w, lens) || w.Len() != 0 {
			t.Errorf("%v: %d bits", lens, w.Len())
		}
	}
}

func TestWriteToNil(t *testing.T) {
	if !huff.Write(nil, []int{1, 1}, 0, 1) || huff.Write(nil, []int{1, 1}, 2) {
		t.Error("what has codes isn't told")
	}
}

func TestCost(t *testing.T) {
	for _, c := range []struct {
		lens, many []int
		want       int
	}{
		{[]int{2, 1, 2}, []int{1, 10, 100}, 2 + 10 + 200},
		{[]int{2, 1, 2}, []int{1, 10}, 12},
		{[]int{2, 1}, []int{1, 10, 100}, 12},
		{nil, []int{1}, 0}, {[]int{1}, nil, 0}, {nil, nil, 0},
		{[]int{-1, 16, math.MaxInt, math.MinInt}, []int{1, 1, 2, 1}, 45},
		{[]int{1, 1, 1}, []int{-1, math.MinInt, 1}, 1},
		{[]int{1}, []int{1 << 40}, 1 << 40},
		{[]int{1}, []int{1<<40 + 1}, 1 << 40},
		{[]int{1, 2}, []int{math.MaxInt, 1<<40 - 1}, 1<<40 + 2*(1<<40-1)},
		{repeated(1, 300), repeated(1, 300), 300},
		{repeated(1, 301), repeated(1, 301), 300},
		{repeated(1, 299), repeated(1, 301), 299},
		{repeated(1, 301), repeated(1, 299), 299},
		{repeated(math.MaxInt, 1000), repeated(math.MaxInt, 1000), 300 * 15 << 40},
		{[]int{1, 1, 1}, []int{1, 2, 3}, 6},
	} {
		if got := huff.Cost(c.lens, c.many); got != c.want {
			t.Errorf("%v, %v: %d, not %d", c.lens, c.many, got, c.want)
		}
	}
}

// P4.4

func TestWhatWasWrittenIsRead(t *testing.T) {
	dice := rand.New(rand.NewSource(43))
	rows := slices.Concat(wholes(), unders())
	for range 300 {
		rows = append(rows, dealt(dice))
	}
	for _, lens := range rows {
		d, ok := huff.New(lens)
		if !ok {
			continue
		}
		var l []int
		many := make([]int, len(lens))
		for range 50 {
			if symbol := dice.Intn(len(lens)); lens[symbol] > 0 {
				l = append(l, symbol)
				many[symbol]++
			}
		}
		var w bitio.Writer
		if !huff.Write(&w, lens, l...) || w.Len() != huff.Cost(lens, many) {
			t.Fatalf("%v: %d bits, not %d", lens, w.Len(), huff.Cost(lens, many))
		}
		r := bitio.Read(w.Bytes())
		for _, want := range l {
			if got, ok := d.Next(r); !ok || got != want {
				t.Fatalf("%v: %d, %v is read, %d was written", lens, got, ok, want)
			}
		}
	}
}

func TestNoCodeBeginsAnotherOne(t *testing.T) {
	dice := rand.New(rand.NewSource(44))
	rows := [][]int{{2, 1, 2}, {4, 0, 2, 6}, long(), unders()[4]}
	for range 100 {
		rows = append(rows, dealt(dice))
	}
	for _, lens := range rows {
		var all []string
		codes := huff.Codes(lens)
		for symbol, n := range lens {
			if n > 0 {
				all = append(all, signsOf(codes[symbol], n))
			}
		}
		slices.Sort(all)
		for i := 1; i < len(all); i++ {
			if strings.HasPrefix(all[i], all[i-1]) {
				t.Fatalf("%v: %s begins %s", lens, all[i-1], all[i])
			}
		}
	}
}

// P1

func TestAllCallsEnd(t *testing.T) {
	dice := rand.New(rand.NewSource(45))
	wild := func() []int {
		l := make([]int, dice.Intn(320))
		for i := range l {
			l[i] = []int{0, 1, 2, 15, 16, -1, 9, math.MinInt, math.MaxInt}[dice.Intn(dice.Intn(9)+1)]
		}
		return l
	}
	for range 500 {
		lens, l := wild(), wild()
		lensWere, lWas := slices.Clone(lens), slices.Clone(l)
		kind := huff.Kind(lens)
		if kind < huff.Empty || kind > huff.Over || len(huff.Codes(lens)) > len(lens) {
			t.Fatal(kind)
		}
		var w bitio.Writer
		huff.Write(&w, lens, l...)
		huff.Cost(lens, l)
		if d, ok := huff.New(lens); ok {
			for r := bitio.Read("anything at all"); r.Fine(); {
				d.Next(r)
			}
		}
		if !slices.Equal(lens, lensWere) || !slices.Equal(l, lWas) {
			t.Fatal("what was handed in is changed")
		}
	}
	new(huff.Decoder).Next(bitio.Read("ab"))
}
