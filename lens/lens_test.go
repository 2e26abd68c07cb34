package lens_test

import (
	"math"
	"math/rand"
	"slices"
	"testing"

	"swingle/lens"
)

const mostTimes = 1 << 30

// near is a number as it is looked at.
func near(n int) int { return min(max(n, 0), mostTimes) }

// cost is how many bits all symbols have.
func cost(l, many []int) int {
	total := 0
	for i, n := range l {
		total += n * near(many[i])
	}
	return total
}

// leastCost is the least cost of all lengths that may be: it tries, symbol by symbol from the commonest on, each length that isn't below the one ahead.
func leastCost(many []int, limit int) int {
	l := make([]int, 0, len(many))
	for _, n := range many {
		if n > 0 {
			l = append(l, near(n))
		}
	}
	slices.Sort(l)
	slices.Reverse(l)
	if len(l) == 1 {
		return l[0]
	}
	type state struct{ at, least, room int }
	known := map[state]int{}
	var from func(at, least, room int) int
	from = func(at, least, room int) int {
		if at == len(l) {
			if room == 0 {
				return 0
			}
			return math.MaxInt
		}
		// What is left can't fill less than one place each, nor more than each with the least length.
		if left := len(l) - at; room < left || room > left<<(limit-least) {
			return math.MaxInt
		}
		key := state{at, least, room}
		if n, ok := known[key]; ok {
			return n
		}
		best := math.MaxInt
		for n := least; n <= limit; n++ {
			if takes := 1 << (limit - n); takes <= room {
				if rest := from(at+1, n, room-takes); rest != math.MaxInt {
					best = min(best, rest+n*l[at])
				}
			}
		}
		known[key] = best
		return best
	}
	if len(l) == 0 {
		return 0
	}
	return from(0, 1, 1<<limit)
}

// holds fails if lengths aren't such as P5.1 asks for.
func holds(t *testing.T, many []int, limit int) []int {
	t.Helper()
	l := lens.Of(many, limit)
	if len(l) != len(many) {
		t.Fatalf("%v, %d: %d lengths", many, limit, len(l))
	}
	used, room := 0, 0
	for i, n := range l {
		if many[i] <= 0 {
			if n != 0 {
				t.Fatalf("%v, %d: %v: %d isn't used", many, limit, l, i)
			}
			continue
		}
		used++
		if n < 1 || n > limit {
			t.Fatalf("%v, %d: %v: the length %d", many, limit, l, n)
		}
		room += 1 << (15 - n)
		for k, m := range l {
			if m > 0 && near(many[k]) > near(many[i]) && m > n {
				t.Fatalf("%v, %d: %v: %d comes oftener than %d, and is longer", many, limit, l, k, i)
			}
		}
	}
	if used > 1 && room != 1<<15 || used == 1 && room != 1<<14 {
		t.Fatalf("%v, %d: %v isn't whole", many, limit, l)
	}
	return l
}

func repeated(n, many int) []int { return slices.Repeat([]int{n}, many) }

// fibs is numbers of which the lengths are as unlike as can be.
func fibs(many int) []int {
	l := []int{1, 1}
	for len(l) < many {
		l = append(l, l[len(l)-1]+l[len(l)-2])
	}
	return l[:many]
}

// P5.1

func TestUsed(t *testing.T) {
	for _, c := range []struct{ many, want []int }{
		{nil, nil}, {[]int{0, 0}, nil}, {[]int{0, -1, math.MinInt}, nil},
		{[]int{5}, []int{0}}, {[]int{0, 7}, []int{1}},
		{[]int{3, 1, 2}, []int{1, 2, 0}},
		{[]int{2, 1, 2, 1, 0, 2}, []int{1, 3, 0, 2, 5}},
		{[]int{9, -9, 8, 0, 7}, []int{4, 2, 0}},
		{[]int{mostTimes + 1, mostTimes, math.MaxInt, mostTimes - 1}, []int{3, 0, 1, 2}},
	} {
		if got := lens.Used(c.many); !slices.Equal(got, c.want) {
			t.Errorf("%v: %v, not %v", c.many, got, c.want)
		}
	}
	if got := lens.Used(repeated(1, 1000)); len(got) != 1000 || !slices.IsSorted(got) {
		t.Error("of many", len(got))
	}
}

func TestUsedKeepsTheOrderOfSymbols(t *testing.T) {
	dice := rand.New(rand.NewSource(51))
	for range 200 {
		many := make([]int, dice.Intn(100))
		for i := range many {
			many[i] = dice.Intn(5)
		}
		l := lens.Used(many)
		for i := 1; i < len(l); i++ {
			if a, b := l[i-1], l[i]; many[a] > many[b] || many[a] == many[b] && a >= b {
				t.Fatalf("%v: %v", many, l)
			}
		}
	}
}

func TestOf(t *testing.T) {
	for _, c := range []struct {
		many  []int
		limit int
		want  []int
	}{
		{[]int{1, 1, 2}, 15, []int{2, 2, 1}},
		{[]int{0, 7}, 15, []int{0, 1}},
		{[]int{7, 0}, 1, []int{1, 0}},
		{[]int{math.MaxInt}, 15, []int{1}},
		{[]int{5, 9}, 1, []int{1, 1}},
		{[]int{5, 0, 9, -4}, 15, []int{1, 0, 1, 0}},
		{[]int{1, 2, 4, 8}, 15, []int{3, 3, 2, 1}},
		{[]int{1, 2, 4, 8}, 3, []int{3, 3, 2, 1}},
		{[]int{1, 2, 4, 8}, 2, []int{2, 2, 2, 2}},
		{[]int{0, 0, 0}, 15, []int{0, 0, 0}},
		{[]int{-1}, 1, []int{0}},
		{nil, 15, nil},
		{repeated(1, 256), 8, repeated(8, 256)},
		{repeated(3, 256), 15, repeated(8, 256)},
	} {
		if got := lens.Of(c.many, c.limit); !slices.Equal(got, c.want) {
			t.Errorf("%v, %d: %v, not %v", c.many, c.limit, got, c.want)
		}
	}
}

func TestOfRefuses(t *testing.T) {
	for _, limit := range []int{0, 16, -1, 17, math.MinInt, math.MaxInt} {
		for _, many := range [][]int{{1, 1}, {7}, {0, 7}, {0}, nil, repeated(1, 300)} {
			if got := lens.Of(many, limit); len(got) != 0 {
				t.Errorf("%v, limit %d: %v", many, limit, got)
			}
		}
	}
	for _, many := range [][]int{repeated(1, 301), repeated(0, 301), append(repeated(0, 300), 5), repeated(1, 5000)} {
		if got := lens.Of(many, 15); len(got) != 0 {
			t.Errorf("of %d: %v", len(many), got)
		}
	}
	for limit := 1; limit <= 8; limit++ {
		if got := lens.Of(repeated(2, 1<<limit+1), limit); len(got) != 0 {
			t.Errorf("limit %d: %v", limit, got)
		}
		if got := lens.Of(repeated(2, 1<<limit), limit); !slices.Equal(got, repeated(limit, 1<<limit)) {
			t.Errorf("limit %d: %v", limit, got)
		}
		// Those that aren't used don't count.
		if got := lens.Of(append(repeated(2, 1<<limit), 0, -1), limit); !slices.Equal(got, append(repeated(limit, 1<<limit), 0, 0)) {
			t.Errorf("limit %d: %v", limit, got)
		}
	}
}

func TestOfAsManyAsMayBe(t *testing.T) {
	dice := rand.New(rand.NewSource(52))
	many := make([]int, 300)
	for i := range many {
		many[i] = 1 + dice.Intn(1<<dice.Intn(31))
	}
	for _, l := range [][]int{many, repeated(1, 300), append(fibs(40), repeated(1, 260)...)} {
		for limit := 9; limit <= 15; limit++ {
			holds(t, l, limit)
		}
	}
}

func TestOfCostsTheLeast(t *testing.T) {
	dice := rand.New(rand.NewSource(53))
	for range 600 {
		many := make([]int, dice.Intn(13))
		for i := range many {
			switch dice.Intn(4) {
			case 0:
				many[i] = dice.Intn(4)
			case 1:
				many[i] = dice.Intn(1000)
			case 2:
				many[i] = 1 << dice.Intn(34)
			default:
				many[i] = dice.Intn(20) - 3
			}
		}
		for limit := 1; limit <= 15; limit++ {
			if len(lens.Used(many)) > 1<<limit {
				continue
			}
			if got, want := cost(holds(t, many, limit), many), leastCost(many, limit); got != want {
				t.Fatalf("%v, %d: it costs %d, not %d", many, limit, got, want)
			}
		}
	}
}

func TestOfCostsTheLeastWhereTheLimitPresses(t *testing.T) {
	for n := 2; n <= 20; n++ {
		for limit := 1; limit <= 15; limit++ {
			many := fibs(n)
			if n > 1<<limit {
				continue
			}
			if got, want := cost(holds(t, many, limit), many), leastCost(many, limit); got != want {
				t.Errorf("%v, %d: it costs %d, not %d", many, limit, got, want)
			}
		}
	}
}

func TestOfLooksAtNumbersAsTheNearer(t *testing.T) {
	// Looked at as they are, the first would be the only one that is short.
	many := []int{math.MaxInt, mostTimes, mostTimes + 5, math.MaxInt}
	if got := lens.Of(many, 15); !slices.Equal(got, []int{2, 2, 2, 2}) {
		t.Error(got)
	}
	if got := lens.Of([]int{math.MaxInt, 1, math.MinInt, 1}, 15); !slices.Equal(got, []int{1, 2, 0, 2}) {
		t.Error(got)
	}
	holds(t, repeated(math.MaxInt, 300), 9)
	holds(t, repeated(math.MaxInt, 300), 15)
}

// P5.2

func TestFixed(t *testing.T) {
	first, second := lens.Fixed()
	want := slices.Concat(repeated(8, 144), repeated(9, 112), repeated(7, 24), repeated(8, 8))
	if !slices.Equal(first, want) || len(first) != 288 {
		t.Error(first)
	}
	if !slices.Equal(second, repeated(5, 32)) {
		t.Error(second)
	}
}

func TestFixedIsNewEachTime(t *testing.T) {
	first, second := lens.Fixed()
	first[0], second[0] = 99, 99
	_ = append(first[:1:1], 98)
	again, other := lens.Fixed()
	if again[0] != 8 || other[0] != 5 {
		t.Error(again[0], other[0])
	}
}

func TestTrim(t *testing.T) {
	for _, c := range []struct {
		l     []int
		least int
		want  []int
	}{
		{[]int{1, 0, 2, 0, 0}, 0, []int{1, 0, 2}},
		{[]int{1, 0, 2, 0, 0}, 3, []int{1, 0, 2}},
		{[]int{1, 0, 2, 0, 0}, 4, []int{1, 0, 2, 0}},
		{[]int{1, 0, 2, 0, 0}, 5, []int{1, 0, 2, 0, 0}},
		{[]int{1, 0, 2, 0, 0}, 6, []int{1, 0, 2, 0, 0}},
		{[]int{1, 0, 2, 0, 0}, math.MaxInt, []int{1, 0, 2, 0, 0}},
		{[]int{1, 0, 2, 0, 0}, -1, []int{1, 0, 2}},
		{[]int{1, 0, 2, 0, 0}, math.MinInt, []int{1, 0, 2}},
		{[]int{0, 0}, 0, nil}, {[]int{0, 0}, 1, []int{0}}, {[]int{0, 0}, -5, nil},
		{nil, 0, nil}, {nil, 9, nil},
		{[]int{3}, 0, []int{3}}, {[]int{0, 0, 7}, 0, []int{0, 0, 7}}, {[]int{1, -1, 0}, 0, []int{1, -1}},
	} {
		if got := lens.Trim(c.l, c.least); !slices.Equal(got, c.want) {
			t.Errorf("%v, %d: %v, not %v", c.l, c.least, got, c.want)
		}
	}
}

func TestAnswersAreNewMemory(t *testing.T) {
	l := []int{1, 2, 0}
	got := lens.Trim(l, 0)
	got[0] = 9
	_ = append(got, 8)
	if !slices.Equal(l, []int{1, 2, 0}) {
		t.Error(l)
	}
}

// P5.3

func TestAGreaterLimitCostsNoMore(t *testing.T) {
	dice := rand.New(rand.NewSource(54))
	for range 100 {
		many := make([]int, 2+dice.Intn(285))
		for i := range many {
			many[i] = dice.Intn(1 << dice.Intn(32))
		}
		last := math.MaxInt
		for limit := 9; limit <= 15; limit++ {
			now := cost(holds(t, many, limit), many)
			if now > last {
				t.Fatalf("%v: %d bits up to %d, %d with one less", many, now, limit, last)
			}
			last = now
		}
	}
}

// P1

func TestAllCallsEnd(t *testing.T) {
	dice := rand.New(rand.NewSource(55))
	for range 300 {
		many := make([]int, dice.Intn(310))
		for i := range many {
			many[i] = []int{0, 1, -1, 2, 1000, math.MinInt, math.MaxInt, mostTimes, mostTimes + 1}[dice.Intn(9)]
		}
		was := slices.Clone(many)
		for limit := -1; limit <= 17; limit++ {
			lens.Of(many, limit)
			lens.Trim(many, limit)
		}
		lens.Used(many)
		if !slices.Equal(many, was) {
			t.Fatal("what was handed in is changed")
		}
	}
}
