package runs_test

import (
	"math"
	"math/rand"
	"slices"
	"testing"

	"swingle/runs"
)

// same is n lengths that are one.
func same(n, length int) []int { return slices.Repeat([]int{length}, n) }

func itself(length int) runs.Step { return runs.Step{Sym: length} }

func ahead(more int) runs.Step { return runs.Step{Sym: 16, Bits: 2, More: more} }

func few(more int) runs.Step { return runs.Step{Sym: 17, Bits: 3, More: more} }

func many(more int) runs.Step { return runs.Step{Sym: 18, Bits: 7, More: more} }

// P9.1

func TestBits(t *testing.T) {
	for sym := -20; sym < 300; sym++ {
		want := -1
		switch {
		case sym >= 0 && sym <= 15:
			want = 0
		case sym == 16:
			want = 2
		case sym == 17:
			want = 3
		case sym == 18:
			want = 7
		}
		if n := runs.Bits(sym); n != want {
			t.Errorf("%d: %d, not %d", sym, n, want)
		}
	}
	if runs.Bits(math.MaxInt) != -1 || runs.Bits(math.MinInt) != -1 {
		t.Error("the greatest, the least")
	}
}

func TestBack(t *testing.T) {
	for _, c := range []struct {
		steps []runs.Step
		want  []int
	}{
		{nil, nil},
		{[]runs.Step{itself(0)}, []int{0}},
		{[]runs.Step{itself(15)}, []int{15}},
		{[]runs.Step{itself(5), ahead(0)}, same(4, 5)},
		{[]runs.Step{itself(5), ahead(3)}, same(7, 5)},
		{[]runs.Step{itself(0), ahead(1), itself(7), ahead(0), ahead(2)}, slices.Concat(same(5, 0), same(9, 7))},
		{[]runs.Step{few(0)}, same(3, 0)},
		{[]runs.Step{few(7)}, same(10, 0)},
		{[]runs.Step{many(0)}, same(11, 0)},
		{[]runs.Step{many(127)}, same(138, 0)},
		{[]runs.Step{few(0), ahead(0)}, same(6, 0)},
		{[]runs.Step{many(0), ahead(3)}, same(17, 0)},
		{[]runs.Step{itself(3), few(1), ahead(0), itself(2), ahead(0)}, slices.Concat(same(1, 3), same(7, 0), same(4, 2))},
		{[]runs.Step{many(127), many(127), many(113)}, same(400, 0)},
		{slices.Concat([]runs.Step{many(127), many(127), many(107)}, slices.Repeat([]runs.Step{itself(1)}, 6)), slices.Concat(same(394, 0), same(6, 1))},
		{slices.Repeat([]runs.Step{itself(9)}, 400), same(400, 9)},
	} {
		l, ok := runs.Back(c.steps)
		if !ok || !slices.Equal(l, c.want) {
			t.Errorf("%v: %v, %v, not %v", c.steps, l, ok, c.want)
		}
	}
}

func TestBackOfWrongSteps(t *testing.T) {
	wrong := [][]runs.Step{
		{ahead(0)},
		{ahead(0), itself(3)},
		{many(127), many(127), many(114)},
		{many(127), many(127), many(113), itself(0)},
		{many(127), many(127), many(112), ahead(0)},
		{many(127), many(127), many(111), few(0)},
		slices.Repeat([]runs.Step{itself(9)}, 401),
		slices.Repeat([]runs.Step{many(127)}, 5),
	}
	for _, sym := range []int{-1, 19, 20, 285, math.MinInt, math.MaxInt} {
		for _, bits := range []int{-1, 0, 2, 3, 7} {
			wrong = append(wrong, []runs.Step{itself(4), {Sym: sym, Bits: bits}})
		}
	}
	for sym, right := range map[int]int{0: 0, 1: 0, 15: 0, 16: 2, 17: 3, 18: 7} {
		for _, bits := range []int{math.MinInt, -1, 0, 1, 2, 3, 4, 6, 7, 8, 63, 64, math.MaxInt} {
			if bits != right {
				wrong = append(wrong, []runs.Step{itself(4), {Sym: sym, Bits: bits}})
			}
		}
		for _, more := range []int{math.MinInt, -1, 1 << right, 1<<right + 1, math.MaxInt} {
			wrong = append(wrong, []runs.Step{itself(4), {Sym: sym, Bits: right, More: more}})
		}
	}
	for _, steps := range wrong {
		if l, ok := runs.Back(steps); ok || len(l) != 0 {
			t.Errorf("%v: %v, %v", steps, l, ok)
		}
		if l, ok := runs.Back(append([]runs.Step{itself(1), itself(2)}, steps...)); steps[0].Sym != 16 && (ok || len(l) != 0) {
			t.Errorf("behind others %v: %v, %v", steps, l, ok)
		}
	}
}

// P9.2

func TestOf(t *testing.T) {
	for _, c := range []struct {
		l    []int
		want []runs.Step
	}{
		{nil, nil},
		{[]int{}, nil},
		{same(1, 0), []runs.Step{itself(0)}},
		{same(2, 0), []runs.Step{itself(0), itself(0)}},
		{same(3, 0), []runs.Step{few(0)}},
		{same(4, 0), []runs.Step{few(1)}},
		{same(10, 0), []runs.Step{few(7)}},
		{same(11, 0), []runs.Step{many(0)}},
		{same(138, 0), []runs.Step{many(127)}},
		{same(139, 0), []runs.Step{many(127), itself(0)}},
		{same(140, 0), []runs.Step{many(127), itself(0), itself(0)}},
		{same(141, 0), []runs.Step{many(127), few(0)}},
		{same(149, 0), []runs.Step{many(127), many(0)}},
		{same(400, 0), []runs.Step{many(127), many(127), many(113)}},
		{same(1, 5), []runs.Step{itself(5)}},
		{same(2, 5), []runs.Step{itself(5), itself(5)}},
		{same(3, 5), []runs.Step{itself(5), itself(5), itself(5)}},
		{same(4, 5), []runs.Step{itself(5), ahead(0)}},
		{same(7, 15), []runs.Step{itself(15), ahead(3)}},
		{same(8, 15), []runs.Step{itself(15), ahead(3), itself(15)}},
		{same(9, 1), []runs.Step{itself(1), ahead(3), itself(1), itself(1)}},
		{same(10, 1), []runs.Step{itself(1), ahead(3), ahead(0)}},
		{[]int{1, 2, 3}, []runs.Step{itself(1), itself(2), itself(3)}},
		{slices.Concat(same(1, 4), same(3, 0), same(4, 4), same(2, 0), same(1, 9)), []runs.Step{itself(4), few(0), itself(4), ahead(0), itself(0), itself(0), itself(9)}},
		{slices.Concat(same(5, 8), same(5, 9)), []runs.Step{itself(8), ahead(1), itself(9), ahead(1)}},
		{slices.Concat(same(11, 0), same(1, 1), same(12, 0)), []runs.Step{many(0), itself(1), many(1)}},
	} {
		if got := runs.Of(c.l); !slices.Equal(got, c.want) {
			t.Errorf("%v: %v, not %v", c.l, got, c.want)
		}
	}
}

func TestOfWrongRows(t *testing.T) {
	for _, length := range []int{-1, 16, 17, 255, math.MinInt, math.MaxInt} {
		for _, l := range [][]int{{length}, {1, length}, {length, 1}, slices.Concat(same(399, 3), []int{length})} {
			if steps := runs.Of(l); len(steps) != 0 {
				t.Errorf("%v: %v", l, steps)
			}
		}
	}
	for _, n := range []int{401, 402, 1000} {
		for _, length := range []int{0, 7} {
			if steps := runs.Of(same(n, length)); len(steps) != 0 {
				t.Errorf("%d of %d: %v", n, length, steps)
			}
		}
	}
	if len(runs.Of(same(400, 7))) == 0 {
		t.Error("400 lengths")
	}
}

// random is a row of which many lengths stand side by side.
func random(r *rand.Rand, most int) []int {
	var l []int
	for end := r.Intn(most + 1); len(l) < end; {
		l = append(l, same(1+r.Intn(1+r.Intn(160)), r.Intn(2)*r.Intn(16))...)
	}
	return l[:min(len(l), most)]
}

// byHand is Of, told step by step from what is left.
func byHand(l []int) []runs.Step {
	var steps []runs.Step
	for rest := l; len(rest) > 0; {
		n := 1
		for n < len(rest) && rest[n] == rest[0] {
			n++
		}
		follows := len(rest) < len(l) && l[len(l)-len(rest)-1] == rest[0]
		s, took := itself(rest[0]), 1
		switch {
		case rest[0] == 0 && n > 138:
			s, took = many(127), 138
		case rest[0] == 0 && n >= 11:
			s, took = many(n-11), n
		case rest[0] == 0 && n >= 3:
			s, took = few(n-3), n
		case follows && n >= 6:
			s, took = ahead(3), 6
		case follows && n >= 3:
			s, took = ahead(n-3), n
		}
		steps, rest = append(steps, s), rest[took:]
	}
	return steps
}

func TestOfAsTold(t *testing.T) {
	r := rand.New(rand.NewSource(92))
	for range 5000 {
		l := random(r, 400)
		was := slices.Clone(l)
		steps := runs.Of(l)
		if !slices.Equal(steps, byHand(was)) {
			t.Fatalf("%v: %v, not %v", l, steps, byHand(was))
		}
		if back, ok := runs.Back(steps); !ok || !slices.Equal(back, was) || len(steps) > len(was) { // P9.3
			t.Fatalf("%v: %v, %v by %d steps", was, back, ok, len(steps))
		}
		if !slices.Equal(l, was) {
			t.Fatalf("%v was changed", was)
		}
	}
}

func TestCount(t *testing.T) {
	var want [19]int
	if runs.Count(nil) != want {
		t.Error("of none")
	}
	var steps []runs.Step
	for sym := range 19 {
		want[sym] = 1 + sym%4
		steps = append(steps, slices.Repeat([]runs.Step{{Sym: sym, Bits: sym, More: -sym}}, want[sym])...)
	}
	for _, sym := range []int{-1, 19, 20, math.MinInt, math.MaxInt} {
		steps = append(steps, runs.Step{Sym: sym})
	}
	was := slices.Clone(steps)
	if got := runs.Count(steps); got != want {
		t.Errorf("%v, not %v", got, want)
	}
	if !slices.Equal(steps, was) {
		t.Error("the steps were changed")
	}
	if got := runs.Count(runs.Of(slices.Concat(same(7, 3), same(20, 0)))); got != [19]int{3: 1, 16: 1, 18: 1} {
		t.Errorf("%v", got)
	}
}

func TestAnswersAreNew(t *testing.T) {
	l := same(20, 0)
	steps := runs.Of(l)
	l[0] = 9
	first, _ := runs.Back(steps)
	first[0] = 8
	if second, ok := runs.Back(steps); !ok || second[0] != 0 || steps[0] != many(9) {
		t.Errorf("%v, %v", steps, second)
	}
}

// P1

func TestAllCallsEnd(t *testing.T) {
	numbers := []int{math.MinInt, -1, 0, 1, 15, 16, 17, 18, 19, 63, 64, math.MaxInt}
	for _, a := range numbers {
		for _, b := range numbers {
			for _, c := range numbers {
				steps := []runs.Step{{Sym: a, Bits: b, More: c}, {Sym: b, Bits: c, More: a}}
				runs.Back(steps)
				runs.Back(append([]runs.Step{itself(1)}, steps...))
				runs.Count(steps)
				runs.Of([]int{a, b, c})
			}
		}
	}
}
