package symbol_test

import (
	"math"
	"slices"
	"testing"

	"swingle/symbol"
)

// code is what RFC 1951 says of a code: its bits, and its first and last number.
type code struct{ code, bits, first, last int }

// longs is the RFC's table of lengths.
func longs() []code {
	return []code{
		{257, 0, 3, 3}, {258, 0, 4, 4}, {259, 0, 5, 5}, {260, 0, 6, 6}, {261, 0, 7, 7}, {262, 0, 8, 8}, {263, 0, 9, 9}, {264, 0, 10, 10},
		{265, 1, 11, 12}, {266, 1, 13, 14}, {267, 1, 15, 16}, {268, 1, 17, 18},
		{269, 2, 19, 22}, {270, 2, 23, 26}, {271, 2, 27, 30}, {272, 2, 31, 34},
		{273, 3, 35, 42}, {274, 3, 43, 50}, {275, 3, 51, 58}, {276, 3, 59, 66},
		{277, 4, 67, 82}, {278, 4, 83, 98}, {279, 4, 99, 114}, {280, 4, 115, 130},
		{281, 5, 131, 162}, {282, 5, 163, 194}, {283, 5, 195, 226}, {284, 5, 227, 257},
		{285, 0, 258, 258},
	}
}

// backs is the RFC's table of distances.
func backs() []code {
	return []code{
		{0, 0, 1, 1}, {1, 0, 2, 2}, {2, 0, 3, 3}, {3, 0, 4, 4},
		{4, 1, 5, 6}, {5, 1, 7, 8}, {6, 2, 9, 12}, {7, 2, 13, 16}, {8, 3, 17, 24}, {9, 3, 25, 32},
		{10, 4, 33, 48}, {11, 4, 49, 64}, {12, 5, 65, 96}, {13, 5, 97, 128}, {14, 6, 129, 192}, {15, 6, 193, 256},
		{16, 7, 257, 384}, {17, 7, 385, 512}, {18, 8, 513, 768}, {19, 8, 769, 1024}, {20, 9, 1025, 1536}, {21, 9, 1537, 2048},
		{22, 10, 2049, 3072}, {23, 10, 3073, 4096}, {24, 11, 4097, 6144}, {25, 11, 6145, 8192}, {26, 12, 8193, 12288}, {27, 12, 12289, 16384},
		{28, 13, 16385, 24576}, {29, 13, 24577, 32768},
	}
}

// side is the calls of lengths, or of distances.
type side struct {
	name   string
	table  []code
	sign   func(n int) (symbol.Sign, bool)
	number func(code, more int) (int, bool)
	bits   func(code int) int
	most   int
}

func sides() []side {
	return []side{
		{"lengths", longs(), symbol.Long, symbol.LongOf, symbol.LongBits, 258},
		{"distances", backs(), symbol.Back, symbol.BackOf, symbol.BackBits, 32768},
	}
}

// P6.1

func TestCodes(t *testing.T) {
	if symbol.End != 256 {
		t.Error(symbol.End)
	}
	for _, x := range sides() {
		for _, c := range x.table {
			for n := c.first; n <= c.last; n++ {
				want := symbol.Sign{Code: c.code, Bits: c.bits, More: n - c.first}
				if got, ok := x.sign(n); !ok || got != want {
					t.Errorf("%s: %d has %v, %v, not %v", x.name, n, got, ok, want)
				}
				if got, ok := x.number(c.code, n-c.first); !ok || got != n {
					t.Errorf("%s: %v is %d, %v, not %d", x.name, want, got, ok, n)
				}
			}
			if got := x.bits(c.code); got != c.bits {
				t.Errorf("%s: %d has %d bits, not %d", x.name, c.code, got, c.bits)
			}
		}
	}
}

// P6.2

func TestNumbersWithoutASign(t *testing.T) {
	for x, l := range map[*side][]int{
		&sides()[0]: {2, 1, 0, -1, 259, 260, 1000, math.MinInt, math.MaxInt},
		&sides()[1]: {0, -1, 32769, 40000, 65536, math.MinInt, math.MaxInt},
	} {
		for _, n := range l {
			if got, ok := x.sign(n); ok || got != (symbol.Sign{}) {
				t.Errorf("%s: %d has %v, %v", x.name, n, got, ok)
			}
		}
	}
}

func TestSignsWithoutANumber(t *testing.T) {
	for _, x := range sides() {
		none := func(code, more int) {
			t.Helper()
			if n, ok := x.number(code, more); ok || n != 0 {
				t.Errorf("%s: %d with %d is %d, %v", x.name, code, more, n, ok)
			}
		}
		for _, c := range x.table {
			for _, more := range []int{c.last - c.first + 1, 1 << c.bits, 1<<c.bits + 1, 1 << 20, -1, -2, -c.first, math.MinInt, math.MaxInt, math.MaxInt - c.first + 1, math.MinInt + c.first} {
				none(c.code, more)
			}
		}
		for _, code := range wrongCodes(x) {
			for _, more := range []int{0, 1, -1, 3, 31, 258, math.MinInt, math.MaxInt} {
				none(code, more)
			}
		}
	}
	if n, ok := symbol.LongOf(284, 31); ok || n != 0 {
		t.Error("284 with 31", n, ok)
	}
}

// wrongCodes is numbers that are no codes.
func wrongCodes(x side) []int {
	first, last := x.table[0].code, x.table[len(x.table)-1].code
	l := []int{first - 1, first - 2, last + 1, last + 2, -1, 256, 286, 287, 10000, math.MinInt, math.MaxInt, math.MinInt + 1}
	if x.name == "lengths" {
		return append(l, 0, 1, 29)
	}
	return append(l, 257, 30, 31)
}

func TestBitsOfWhatIsNoCode(t *testing.T) {
	for _, x := range sides() {
		for _, code := range wrongCodes(x) {
			if n := x.bits(code); n != -1 {
				t.Errorf("%s: %d has %d bits", x.name, code, n)
			}
		}
	}
}

func TestExamples(t *testing.T) {
	if s, ok := symbol.Long(13); !ok || s != (symbol.Sign{Code: 266, Bits: 1}) {
		t.Error(s)
	}
	if s, ok := symbol.Back(7); !ok || s != (symbol.Sign{Code: 5, Bits: 1}) {
		t.Error(s)
	}
	if s, ok := symbol.Long(258); !ok || s != (symbol.Sign{Code: 285}) {
		t.Error(s)
	}
	if s, ok := symbol.Long(257); !ok || s != (symbol.Sign{Code: 284, Bits: 5, More: 30}) {
		t.Error(s)
	}
}

// P6.3

func TestTheNumberOfASignIsTheNumber(t *testing.T) {
	for _, x := range sides() {
		had := map[symbol.Sign]int{}
		for n := -5; n <= x.most+5; n++ {
			s, ok := x.sign(n)
			if !ok {
				continue
			}
			if other, twice := had[s]; twice {
				t.Fatalf("%s: %d and %d have %v", x.name, other, n, s)
			}
			had[s] = n
			if back, ok := x.number(s.Code, s.More); !ok || back != n || x.bits(s.Code) != s.Bits {
				t.Fatalf("%s: %d has %v, that is %d, %v", x.name, n, s, back, ok)
			}
		}
	}
}

func TestEachNumberHasOneSignOnly(t *testing.T) {
	for _, x := range sides() {
		many := map[int]int{}
		for code := -5; code <= 300; code++ {
			for more := -3; more <= 1<<14; more++ {
				if n, ok := x.number(code, more); ok {
					many[n]++
				}
			}
		}
		var l []int
		for n, times := range many {
			if times != 1 {
				t.Errorf("%s: %d has %d signs", x.name, n, times)
			}
			l = append(l, n)
		}
		if slices.Max(l) != x.most || len(l) != x.most-slices.Min(l)+1 {
			t.Errorf("%s: from %d to %d", x.name, slices.Min(l), slices.Max(l))
		}
	}
}

// P1

func TestAllCallsEnd(t *testing.T) {
	numbers := []int{math.MinInt, math.MinInt + 1, math.MinInt + 257, math.MinInt32, -1, 0, 1, 29, 256, 257, 284, 285, 32768, math.MaxInt32, math.MaxInt - 258, math.MaxInt - 1, math.MaxInt}
	for _, x := range sides() {
		for _, a := range numbers {
			x.sign(a)
			x.bits(a)
			for _, b := range numbers {
				if n, ok := x.number(a, b); ok != (n > 0) || n > x.most {
					t.Errorf("%s: %d with %d is %d, %v", x.name, a, b, n, ok)
				}
			}
		}
	}
}
