package extent_test

import (
	"math"
	"math/rand"
	"slices"
	"testing"

	"swingle/api"
	"swingle/extent"
)

const far = 1 << 40

func span(from, to int) api.Span { return api.Span{From: from, To: to} }

// of is spans of pairs of numbers.
func of(l ...int) []api.Span {
	var spans []api.Span
	for i := 0; i+1 < len(l); i += 2 {
		spans = append(spans, span(l[i], l[i+1]))
	}
	return spans
}

func wrongs() []api.Span {
	return of(0, 0, 5, 5, 6, 5, -1, 3, -5, -1, 0, far+1, far, far, far, far+1, math.MinInt, math.MaxInt, math.MaxInt, math.MinInt, math.MinInt, math.MinInt, 3, math.MaxInt, math.MaxInt, math.MaxInt)
}

// has fails if a set has other spans, told in any way.
func has(t *testing.T, s *extent.Set, want ...int) {
	t.Helper()
	total := 0
	for _, x := range of(want...) {
		total += x.To - x.From
	}
	if l := s.Spans(); !slices.Equal(l, of(want...)) || s.Total() != total {
		t.Errorf("%v, %d places, not %v", l, s.Total(), want)
	}
	if l := slices.Collect(s.All()); !slices.Equal(l, of(want...)) {
		t.Errorf("one by one %v, not %v", l, want)
	}
}

// P24.1

func TestRight(t *testing.T) {
	for _, x := range of(0, 1, 0, far, far-1, far, 5, 6, 3, 1000) {
		if !extent.Right(x) {
			t.Error(x)
		}
	}
	for _, x := range wrongs() {
		if extent.Right(x) {
			t.Error(x)
		}
	}
}

func TestAdd(t *testing.T) {
	for _, c := range []struct{ first, then, want []int }{
		{nil, nil, nil},
		{nil, []int{3, 5}, []int{3, 5}},
		{nil, []int{0, far}, []int{0, far}},
		{[]int{4, 6}, []int{0, 4}, []int{0, 6}},
		{[]int{0, 4}, []int{4, 6}, []int{0, 6}},
		{[]int{4, 6}, []int{0, 3}, []int{0, 3, 4, 6}},
		{[]int{4, 6}, []int{7, 9}, []int{4, 6, 7, 9}},
		{[]int{4, 6}, []int{5, 9}, []int{4, 9}},
		{[]int{4, 6}, []int{2, 5}, []int{2, 6}},
		{[]int{4, 8}, []int{5, 6}, []int{4, 8}},
		{[]int{4, 8}, []int{4, 8}, []int{4, 8}},
		{[]int{4, 8}, []int{2, 10}, []int{2, 10}},
		{[]int{1, 2, 4, 5, 7, 8}, []int{4, 5}, []int{1, 2, 4, 5, 7, 8}},
		{[]int{1, 2, 4, 5, 7, 8}, []int{2, 4}, []int{1, 5, 7, 8}},
		{[]int{1, 2, 4, 5, 7, 8}, []int{2, 7}, []int{1, 8}},
		{[]int{1, 2, 4, 5, 7, 8}, []int{3, 6}, []int{1, 2, 3, 6, 7, 8}},
		{[]int{1, 2, 4, 5, 7, 8}, []int{0, 20}, []int{0, 20}},
		{[]int{1, 2, 4, 5, 7, 8}, []int{9, 20}, []int{1, 2, 4, 5, 7, 8, 9, 20}},
	} {
		s := extent.New(of(c.first...)...)
		has(t, s, c.first...)
		for _, x := range of(c.then...) {
			s.Add(x)
		}
		has(t, s, c.want...)
	}
}

func TestCut(t *testing.T) {
	for _, c := range []struct{ first, then, want []int }{
		{nil, []int{3, 5}, nil},
		{[]int{4, 8}, []int{4, 8}, nil},
		{[]int{4, 8}, []int{0, far}, nil},
		{[]int{4, 8}, []int{5, 6}, []int{4, 5, 6, 8}},
		{[]int{4, 8}, []int{4, 5}, []int{5, 8}},
		{[]int{4, 8}, []int{7, 8}, []int{4, 7}},
		{[]int{4, 8}, []int{2, 4}, []int{4, 8}},
		{[]int{4, 8}, []int{8, 9}, []int{4, 8}},
		{[]int{4, 8}, []int{6, 12}, []int{4, 6}},
		{[]int{4, 8}, []int{1, 6}, []int{6, 8}},
		{[]int{1, 3, 4, 6, 7, 9}, []int{2, 8}, []int{1, 2, 8, 9}},
		{[]int{1, 3, 4, 6, 7, 9}, []int{4, 6}, []int{1, 3, 7, 9}},
		{[]int{1, 3, 4, 6, 7, 9}, []int{3, 7}, []int{1, 3, 7, 9}},
		{[]int{1, 3, 4, 6, 7, 9}, []int{0, 9}, nil},
		{[]int{0, far}, []int{far - 1, far}, []int{0, far - 1}},
	} {
		s := extent.New(of(c.first...)...)
		for _, x := range of(c.then...) {
			s.Cut(x)
		}
		has(t, s, c.want...)
	}
}

func TestOfOthersNothingIsDone(t *testing.T) {
	s := extent.New(append(wrongs(), of(3, 6, 8, 9)...)...)
	has(t, s, 3, 6, 8, 9)
	for _, x := range wrongs() {
		s.Add(x)
		s.Cut(x)
		has(t, s, 3, 6, 8, 9)
		if s.Meets(x) || len(s.Holes(x)) != 0 {
			t.Error(x)
		}
	}
}

func TestHas(t *testing.T) {
	s := extent.New(of(0, 2, 5, 6, far-1, far)...)
	for _, at := range []int{0, 1, 5, far - 1} {
		if !s.Has(at) {
			t.Error(at)
		}
	}
	for _, at := range []int{-1, 2, 4, 6, far - 2, far, far + 1, math.MinInt, math.MaxInt} {
		if s.Has(at) {
			t.Error(at)
		}
	}
	if extent.New().Has(0) {
		t.Error("a place of none")
	}
}

func TestMeets(t *testing.T) {
	s := extent.New(of(3, 6, 8, 9)...)
	for _, x := range of(0, 4, 3, 4, 5, 6, 5, 8, 4, 5, 0, far, 6, 9, 8, 9, 8, far) {
		if !s.Meets(x) {
			t.Error(x)
		}
	}
	for _, x := range of(0, 3, 6, 8, 6, 7, 9, 10, 9, far) {
		if s.Meets(x) {
			t.Error(x)
		}
	}
}

func TestNil(t *testing.T) {
	var s *extent.Set
	s.Add(span(0, 5))
	s.Cut(span(0, 5))
	has(t, s)
	if s.Has(0) || s.Meets(span(0, 5)) {
		t.Error("a place of nil")
	}
	if l := s.Holes(span(2, 5)); !slices.Equal(l, of(2, 5)) {
		t.Error(l)
	}
	for _, x := range wrongs() {
		if l := s.Holes(x); len(l) != 0 {
			t.Error(l)
		}
	}
}

func TestNewLeavesItsListAlone(t *testing.T) {
	l := of(4, 6, 0, 4, 9, 10)
	s := extent.New(l[:2]...)
	s.Add(span(20, 21))
	if !slices.Equal(l, of(4, 6, 0, 4, 9, 10)) {
		t.Error(l)
	}
	l[0] = span(50, 60)
	has(t, s, 0, 6, 20, 21)
}

// P24.2

func TestSpansAreNotShared(t *testing.T) {
	s := extent.New(of(1, 2, 4, 5)...)
	l := s.Spans()
	l[0] = span(7, 8)
	has(t, s, 1, 2, 4, 5)
	l = s.Spans()
	s.Cut(span(0, 3))
	s.Add(span(9, 10))
	if !slices.Equal(l, of(1, 2, 4, 5)) {
		t.Error(l)
	}
}

func TestAllEndsWithWhoAsks(t *testing.T) {
	s := extent.New(of(1, 2, 4, 5, 7, 8)...)
	for stop := range 4 {
		many := 0
		s.All()(func(api.Span) bool {
			many++
			return many <= stop
		})
		if many != min(stop+1, 3) {
			t.Error(stop, many)
		}
	}
}

func TestAllTellsWhatWasThere(t *testing.T) {
	s := extent.New(of(1, 2, 4, 5, 7, 8)...)
	var l []api.Span
	for x := range s.All() {
		l = append(l, x)
		s.Cut(span(0, 5))
		s.Add(span(20, 30))
	}
	if !slices.Equal(l, of(1, 2, 4, 5, 7, 8)) {
		t.Error(l)
	}
	has(t, s, 7, 8, 20, 30)
}

func TestHoles(t *testing.T) {
	s := extent.New(of(3, 6, 8, 9)...)
	for _, c := range []struct{ x, want []int }{
		{[]int{0, 10}, []int{0, 3, 6, 8, 9, 10}},
		{[]int{3, 9}, []int{6, 8}},
		{[]int{4, 5}, nil},
		{[]int{3, 6}, nil},
		{[]int{0, 3}, []int{0, 3}},
		{[]int{0, 4}, []int{0, 3}},
		{[]int{5, 7}, []int{6, 7}},
		{[]int{6, 8}, []int{6, 8}},
		{[]int{7, 9}, []int{7, 8}},
		{[]int{9, far}, []int{9, far}},
		{[]int{8, far}, []int{9, far}},
	} {
		if l := s.Holes(of(c.x...)[0]); !slices.Equal(l, of(c.want...)) {
			t.Errorf("of %v: %v", c.x, l)
		}
	}
	if l := extent.New().Holes(span(0, 5)); !slices.Equal(l, of(0, 5)) {
		t.Error(l)
	}
}

func TestTotalOfAll(t *testing.T) {
	if n := extent.New(span(0, far)).Total(); n != far {
		t.Error(n)
	}
}

// P24.3

// marked is the longest spans of places that are in, or not.
func marked(in []bool, from, to int, want bool) []api.Span {
	var l []api.Span
	for at := from; at < to; at++ {
		if in[at] != want {
			continue
		}
		if n := len(l); n > 0 && l[n-1].To == at {
			l[n-1].To++
		} else {
			l = append(l, span(at, at+1))
		}
	}
	return l
}

func TestASetIsAsMarksOnAllPlaces(t *testing.T) {
	const places = 40
	dice := rand.New(rand.NewSource(24))
	for range 200 {
		s := extent.New()
		in := make([]bool, places)
		for range 40 {
			from := dice.Intn(places)
			x := span(from, from+1+dice.Intn(places-from))
			put := dice.Intn(2) == 0
			if put {
				s.Add(x)
			} else {
				s.Cut(x)
			}
			for at := x.From; at < x.To; at++ {
				in[at] = put
			}
			if l := s.Spans(); !slices.Equal(l, marked(in, 0, places, true)) {
				t.Fatalf("%v, not %v", l, marked(in, 0, places, true))
			}
			from = dice.Intn(places)
			y := span(from, from+1+dice.Intn(places-from))
			holes := marked(in, y.From, y.To, false)
			if l := s.Holes(y); !slices.Equal(l, holes) {
				t.Fatalf("holes %v, not %v", l, holes)
			}
			if s.Meets(y) != (len(marked(in, y.From, y.To, true)) > 0) || s.Has(from) != in[from] {
				t.Fatal("meets", y, "has", from)
			}
			both := extent.New(s.Holes(y)...)
			for z := range s.All() {
				if z.From < y.To && z.To > y.From {
					both.Add(span(max(z.From, y.From), min(z.To, y.To)))
				}
			}
			if !slices.Equal(both.Spans(), []api.Span{y}) {
				t.Fatal("what is in it, and its holes, aren't", y)
			}
		}
	}
}
