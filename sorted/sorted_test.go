package sorted_test

import (
	"cmp"
	"iter"
	"math/rand"
	"slices"
	"sort"
	"strings"
	"testing"

	"swingle/sorted"
)

type pair struct {
	K int
	V string
}

// told is what an iterator tells.
func told(seq iter.Seq2[int, string]) []pair {
	var l []pair
	for k, v := range seq {
		l = append(l, pair{k, v})
	}
	return l
}

// of is a map of keys, each with its place among them as its thing.
func of(keys ...int) *sorted.Map[int, string] {
	m := sorted.New[int, string](cmp.Compare[int])
	for i, k := range keys {
		m.Put(k, string(rune('a'+i)))
	}
	return m
}

func same(t *testing.T, got, want []pair) {
	t.Helper()
	if !slices.Equal(got, want) {
		t.Errorf("%v, not %v", got, want)
	}
}

// rising is the pairs of a map of Go's own, in order.
func rising(m map[int]string) []pair {
	var l []pair
	for k, v := range m {
		l = append(l, pair{k, v})
	}
	sort.Slice(l, func(i, j int) bool { return l[i].K < l[j].K })
	return l
}

func falling(l []pair) []pair {
	l = slices.Clone(l)
	slices.Reverse(l)
	return l
}

// P15.1

func TestPutGetDrop(t *testing.T) {
	m := sorted.New[int, string](cmp.Compare[int])
	if v, ok := m.Get(1); ok || v != "" || m.Len() != 0 || m.Drop(1) {
		t.Error("a new one has things")
	}
	if !m.Put(1, "a") || !m.Put(2, "b") || m.Len() != 2 {
		t.Error("what is put isn't new")
	}
	if m.Put(1, "z") || m.Len() != 2 {
		t.Error("what is put again is new")
	}
	if v, ok := m.Get(1); !ok || v != "z" {
		t.Error(v, ok)
	}
	if v, ok := m.Get(2); !ok || v != "b" {
		t.Error(v, ok)
	}
	if v, ok := m.Get(3); ok || v != "" {
		t.Error(v, ok)
	}
	if m.Drop(3) || m.Len() != 2 {
		t.Error("what isn't there is dropped")
	}
	if !m.Drop(1) || m.Drop(1) || m.Len() != 1 {
		t.Error("drop")
	}
	if v, ok := m.Get(1); ok || v != "" {
		t.Error(v, ok)
	}
	same(t, told(m.All()), []pair{{2, "b"}})
	if !m.Drop(2) || m.Len() != 0 || told(m.All()) != nil || !m.Put(1, "n") {
		t.Error("an empty one")
	}
}

func TestAThingMayBeAZeroOne(t *testing.T) {
	m := sorted.New[string, int](strings.Compare)
	if !m.Put("", 0) || m.Put("", 0) || m.Len() != 1 {
		t.Error("put")
	}
	if v, ok := m.Get(""); !ok || v != 0 {
		t.Error(v, ok)
	}
	if !m.Drop("") {
		t.Error("drop")
	}
}

func TestKeysOfAnyKindByTheOrderAlone(t *testing.T) {
	type key struct {
		l    []int // may not be compared by ==
		note string
	}
	m := sorted.New[key, *int](func(a, b key) int { return 1000 * (len(a.l) - len(b.l)) })
	one, two := 1, 2
	if !m.Put(key{[]int{1, 2}, "x"}, &two) || !m.Put(key{[]int{1}, "y"}, &one) || m.Put(key{[]int{9, 9}, "z"}, nil) {
		t.Error("put")
	}
	if v, ok := m.Get(key{make([]int, 2), ""}); !ok || v != nil {
		t.Error(v, ok)
	}
	var notes []string
	for k := range m.All() {
		notes = append(notes, k.note)
	}
	if !slices.Equal(notes, []string{"y", "x"}) {
		t.Error(notes)
	}
}

func TestNewOfNoOrder(t *testing.T) {
	if sorted.New[int, string](nil) != nil {
		t.Error("a map without an order")
	}
}

func TestNilMap(t *testing.T) {
	var m *sorted.Map[int, string]
	if m.Put(1, "a") || m.Drop(1) || m.Len() != 0 || m.Clone() != nil {
		t.Error("something of nil")
	}
	if v, ok := m.Get(1); ok || v != "" {
		t.Error(v, ok)
	}
	if told(m.All()) != nil || told(m.From(0)) != nil || told(m.Back()) != nil || sorted.Keys(m) != nil {
		t.Error("nil tells something")
	}
	if sorted.Filter(m, func(int, string) bool { return true }) != nil || sorted.Filter(m, nil) != nil {
		t.Error("a map of nil")
	}
}

func TestZeroMapEndsAndDoesNotPanic(t *testing.T) {
	var m sorted.Map[int, string]
	m.Put(1, "a")
	m.Put(2, "b")
	m.Get(1)
	m.Drop(1)
	m.Len()
	m.Clone().Put(3, "c")
	told(m.All())
	told(m.From(1))
	told(m.Back())
	sorted.Keys(&m)
	sorted.Filter(&m, func(int, string) bool { return true })
	for range sorted.Join(&m, of(1, 2)) {
	}
	for range sorted.Join(of(1, 2), &m) {
	}
}

func TestCloneGoesItsOwnWay(t *testing.T) {
	m := of(3, 1, 2)
	c := m.Clone()
	same(t, told(c.All()), []pair{{1, "b"}, {2, "c"}, {3, "a"}})
	if c.Len() != 3 {
		t.Error(c.Len())
	}
	c.Put(1, "z")
	c.Put(4, "n")
	c.Drop(3)
	same(t, told(m.All()), []pair{{1, "b"}, {2, "c"}, {3, "a"}})
	m.Drop(2)
	m.Put(0, "o")
	same(t, told(c.All()), []pair{{1, "z"}, {2, "c"}, {4, "n"}})
	if m.Len() != 3 || c.Len() != 3 {
		t.Error(m.Len(), c.Len())
	}
}

// TestAsGosOwnMap does the same things to a map of this package and to one of Go's own, and holds all answers against each other.
func TestAsGosOwnMap(t *testing.T) {
	for seed := range int64(8) {
		dice := rand.New(rand.NewSource(seed))
		keys := 4 << seed
		m, model := sorted.New[int, string](cmp.Compare[int]), map[int]string{}
		for step := range 1500 {
			k, v := dice.Intn(keys), string(rune('a'+step%26))
			old, had := model[k]
			if got, ok := m.Get(k); ok != had || got != old {
				t.Fatal("get", k, got, ok)
			}
			if dice.Intn(5) < 3 {
				if m.Put(k, v) == had {
					t.Fatal("put", k)
				}
				model[k] = v
			} else {
				if m.Drop(k) != had {
					t.Fatal("drop", k)
				}
				delete(model, k)
			}
			if m.Len() != len(model) {
				t.Fatal("len", m.Len(), len(model))
			}
			if step%50 == 0 {
				want := rising(model)
				same(t, told(m.All()), want)
				same(t, told(m.Back()), falling(want))
			}
		}
	}
}

func TestManyInOrder(t *testing.T) {
	const many = 100000
	m := sorted.New[int, string](cmp.Compare[int])
	for k := range many {
		m.Put(k, "")
		m.Put(-k, "")
	}
	if m.Len() != 2*many-1 {
		t.Fatal(m.Len())
	}
	want := 1 - many
	for k := range m.All() {
		if k != want {
			t.Fatal(k, want)
		}
		want++
	}
	for k := range many {
		if !m.Drop(-k) {
			t.Fatal(k)
		}
	}
	if m.Len() != many-1 {
		t.Fatal(m.Len())
	}
}

// P15.2

func TestAllFromBackKeys(t *testing.T) {
	m := of(30, 10, 20)
	same(t, told(m.All()), []pair{{10, "b"}, {20, "c"}, {30, "a"}})
	same(t, told(m.Back()), []pair{{30, "a"}, {20, "c"}, {10, "b"}})
	if l := sorted.Keys(m); !slices.Equal(l, []int{10, 20, 30}) {
		t.Error(l)
	}
	if e := of(); told(e.All()) != nil || told(e.Back()) != nil || told(e.From(0)) != nil || len(sorted.Keys(e)) != 0 {
		t.Error("an empty one tells something")
	}
}

func TestFromTellsWhatIsNotBelow(t *testing.T) {
	keys := rand.New(rand.NewSource(3)).Perm(40)
	m := sorted.New[int, string](cmp.Compare[int])
	for _, k := range keys {
		m.Put(2*k, "x")
	}
	all := told(m.All())
	for k := -1; k <= 80; k++ {
		first := min((k+1)/2, 40)
		same(t, told(m.From(k)), all[first:])
	}
}

func TestKeysAreNew(t *testing.T) {
	m := of(1, 2)
	sorted.Keys(m)[0] = 9
	if l := sorted.Keys(m); !slices.Equal(l, []int{1, 2}) {
		t.Error(l)
	}
}

// TestLeftEarly leaves each iterator at each place: nothing is told any more behind it, and the next one begins anew.
func TestLeftEarly(t *testing.T) {
	m := sorted.New[int, string](cmp.Compare[int])
	for _, k := range rand.New(rand.NewSource(4)).Perm(30) {
		m.Put(k, "v")
	}
	for name, seq := range map[string]iter.Seq2[int, string]{"All": m.All(), "Back": m.Back(), "From": m.From(0), "From the middle": m.From(12)} {
		all := told(seq)
		for leave := 1; leave <= len(all); leave++ {
			var l []pair
			over := false
			seq(func(k int, v string) bool {
				if over {
					t.Fatal(name, "tells more")
				}
				l = append(l, pair{k, v})
				over = len(l) == leave
				return !over
			})
			same(t, l, all[:leave])
			for range seq {
				break
			}
		}
		same(t, told(seq), all)
	}
	calls := 0
	sorted.Join(m, of(1, 2))(func(int, sorted.Pair[string]) bool {
		calls++
		return calls < 4
	})
	if calls != 4 {
		t.Error("Join tells more:", calls)
	}
}

func TestWhatIsPutOrDroppedMeanwhileCountsForNothing(t *testing.T) {
	seqs := map[string]func(m *sorted.Map[int, string]) iter.Seq2[int, string]{
		"All":  func(m *sorted.Map[int, string]) iter.Seq2[int, string] { return m.All() },
		"Back": func(m *sorted.Map[int, string]) iter.Seq2[int, string] { return m.Back() },
		"From": func(m *sorted.Map[int, string]) iter.Seq2[int, string] { return m.From(2) },
	}
	changes := map[string]func(m *sorted.Map[int, string], k int){
		"a new key is put":        func(m *sorted.Map[int, string], k int) { m.Put(k-1, "new") },
		"a key is put once more":  func(m *sorted.Map[int, string], k int) { m.Put(k, "other") },
		"a key is dropped":        func(m *sorted.Map[int, string], k int) { m.Drop(k) },
		"a key is put and is off": func(m *sorted.Map[int, string], k int) { m.Put(k-1, "new"); m.Drop(k); m.Drop(k - 1) },
	}
	for name, seq := range seqs {
		for change, done := range changes {
			for at := range 7 { // the change is made when so many were told
				m := of(2, 4, 6, 8, 10, 12, 14)
				want := told(seq(m))
				var l []pair
				for k, v := range seq(m) {
					if len(l) == at {
						for key := 2; key <= 16; key += 2 {
							done(m, key)
						}
					}
					l = append(l, pair{k, v})
				}
				if !slices.Equal(l, want) {
					t.Errorf("%s, %s at %d: %v, not %v", name, change, at, l, want)
				}
			}
		}
	}
}

func TestAnIteratorBeginsWhenItIsRangedOver(t *testing.T) {
	m := of(1)
	all, back, from := m.All(), m.Back(), m.From(1)
	m.Put(2, "n")
	same(t, told(all), []pair{{1, "a"}, {2, "n"}})
	same(t, told(back), []pair{{2, "n"}, {1, "a"}})
	same(t, told(from), []pair{{1, "a"}, {2, "n"}})
	m.Drop(1)
	same(t, told(all), []pair{{2, "n"}})
}

func TestIteratorsInOneAnother(t *testing.T) {
	m := of(1, 2, 3)
	n := 0
	for a := range m.All() {
		for b := range m.Back() {
			n = 10*n + a*b%10
		}
	}
	if n != 321642963 {
		t.Error(n)
	}
}

func TestFilter(t *testing.T) {
	m := of(5, 4, 3, 2, 1)
	odd := sorted.Filter(m, func(k int, v string) bool { return k%2 == 1 })
	same(t, told(odd.All()), []pair{{1, "e"}, {3, "c"}, {5, "a"}})
	if odd.Len() != 3 || m.Len() != 5 {
		t.Error(odd.Len(), m.Len())
	}
	byThing := sorted.Filter(m, func(k int, v string) bool { return v < "c" })
	same(t, told(byThing.All()), []pair{{4, "b"}, {5, "a"}})
	odd.Put(4, "n")
	odd.Drop(1)
	same(t, told(odd.All()), []pair{{3, "c"}, {4, "n"}, {5, "a"}})
	same(t, told(m.All()), []pair{{1, "e"}, {2, "d"}, {3, "c"}, {4, "b"}, {5, "a"}})
	none := sorted.Filter(m, func(int, string) bool { return false })
	if none == nil || none.Len() != 0 || !none.Put(1, "a") {
		t.Error("a map of nothing")
	}
	if none := sorted.Filter(m, nil); none == nil || none.Len() != 0 {
		t.Error("by no want something is wanted")
	}
}

func TestFilterWhileTheMapChanges(t *testing.T) {
	m := of(1, 2, 3)
	all := sorted.Filter(m, func(k int, v string) bool {
		m.Put(k+10, "n")
		return m.Drop(k)
	})
	same(t, told(all.All()), []pair{{1, "a"}, {2, "b"}, {3, "c"}})
	if l := sorted.Keys(m); !slices.Equal(l, []int{11, 12, 13}) {
		t.Error(l)
	}
}

// P15.3

type joined struct {
	K int
	P sorted.Pair[string]
}

func join(a, b *sorted.Map[int, string]) []joined {
	var l []joined
	for k, p := range sorted.Join(a, b) {
		l = append(l, joined{k, p})
	}
	return l
}

func TestJoin(t *testing.T) {
	a, b := of(1, 3, 5), of(3, 2, 6, 5)
	want := []joined{
		{1, sorted.Pair[string]{A: "a", InA: true}},
		{2, sorted.Pair[string]{B: "b", InB: true}},
		{3, sorted.Pair[string]{A: "b", B: "a", InA: true, InB: true}},
		{5, sorted.Pair[string]{A: "c", B: "d", InA: true, InB: true}},
		{6, sorted.Pair[string]{B: "c", InB: true}},
	}
	if l := join(a, b); !slices.Equal(l, want) {
		t.Error(l)
	}
	for i := range want {
		p := want[i].P
		want[i].P = sorted.Pair[string]{A: p.B, B: p.A, InA: p.InB, InB: p.InA}
	}
	if l := join(b, a); !slices.Equal(l, want) {
		t.Error(l)
	}
	if a.Len() != 3 || b.Len() != 4 {
		t.Error("what is joined is changed")
	}
}

func TestJoinOfZeroThings(t *testing.T) {
	a := sorted.New[int, string](cmp.Compare[int])
	b := a.Clone()
	a.Put(1, "")
	b.Put(1, "")
	b.Put(2, "")
	want := []joined{{1, sorted.Pair[string]{InA: true, InB: true}}, {2, sorted.Pair[string]{InB: true}}}
	if l := join(a, b); !slices.Equal(l, want) {
		t.Error(l)
	}
}

func TestJoinOfOneAndItself(t *testing.T) {
	m := of(2, 1)
	want := []joined{
		{1, sorted.Pair[string]{A: "b", B: "b", InA: true, InB: true}},
		{2, sorted.Pair[string]{A: "a", B: "a", InA: true, InB: true}},
	}
	if l := join(m, m); !slices.Equal(l, want) {
		t.Error(l)
	}
}

func TestJoinOfNil(t *testing.T) {
	fallingOrder := func(a, b int) int { return b - a }
	m := sorted.New[int, string](fallingOrder)
	m.Put(1, "a")
	m.Put(2, "b")
	if l := join(nil, m); !slices.Equal(l, []joined{{2, sorted.Pair[string]{B: "b", InB: true}}, {1, sorted.Pair[string]{B: "a", InB: true}}}) {
		t.Error(l)
	}
	if l := join(m, nil); !slices.Equal(l, []joined{{2, sorted.Pair[string]{A: "b", InA: true}}, {1, sorted.Pair[string]{A: "a", InA: true}}}) {
		t.Error(l)
	}
	if l := join(nil, nil); l != nil {
		t.Error(l)
	}
	if l := join(of(), of()); l != nil {
		t.Error(l)
	}
}

func TestJoinGoesByTheFirstOnesOrder(t *testing.T) {
	a := of(1, 2, 4)
	b := sorted.New[int, string](func(a, b int) int { return b - a })
	for k := range 6 {
		b.Put(k, "b")
	}
	var keys []int
	for k, p := range sorted.Join(a, b) {
		keys = append(keys, k)
		if _, in := a.Get(k); p.InA != in || !p.InB || p.B != "b" {
			t.Error(k, p)
		}
	}
	if !slices.Equal(keys, []int{0, 1, 2, 3, 4, 5}) {
		t.Error(keys)
	}
	keys = nil
	for k := range sorted.Join(b, a) {
		keys = append(keys, k)
	}
	if !slices.Equal(keys, []int{5, 4, 3, 2, 1, 0}) {
		t.Error(keys)
	}
}

func TestJoinTellsAKeyOnceByTheFirstOnesOrder(t *testing.T) {
	tens := func(a, b int) int { return a/10 - b/10 }
	a := sorted.New[int, string](tens)
	a.Put(15, "a")
	want := []joined{{15, sorted.Pair[string]{A: "a", B: "a", InA: true, InB: true}}, {21, sorted.Pair[string]{B: "c", InB: true}}}
	if l := join(a, of(11, 12, 21, 22)); !slices.Equal(l, want) {
		t.Error(l)
	}
}

func TestJoinWhileMapsChange(t *testing.T) {
	a, b := of(1, 3), of(2, 4)
	var keys []int
	for k := range sorted.Join(a, b) {
		keys = append(keys, k)
		a.Put(k+10, "n")
		b.Drop(4)
	}
	if !slices.Equal(keys, []int{1, 2, 3, 4}) {
		t.Error(keys)
	}
}

// P15.4

// orders tells all orders of n numbers.
func orders(n int) iter.Seq[[]int] {
	return func(yield func([]int) bool) {
		var more func(l []int) bool
		more = func(l []int) bool {
			if len(l) == n {
				return yield(l)
			}
			for k := range n {
				if !slices.Contains(l, k) && !more(append(slices.Clone(l), k)) {
					return false
				}
			}
			return true
		}
		more(nil)
	}
}

func TestInWhateverOrderThingsArePut(t *testing.T) {
	var want []pair
	for k := range 7 {
		want = append(want, pair{k, string(rune('a' + k))})
	}
	for l := range orders(7) {
		m := sorted.New[int, string](cmp.Compare[int])
		for _, k := range l {
			m.Put(k, string(rune('a'+k)))
		}
		if !slices.Equal(told(m.All()), want) || !slices.Equal(told(m.Back()), falling(want)) || !slices.Equal(told(m.From(3)), want[3:]) || m.Len() != 7 {
			t.Fatal(l)
		}
	}
}

func TestInWhateverOrderThingsAreDropped(t *testing.T) {
	full := of(0, 1, 2, 3, 4, 5, 6)
	for l := range orders(7) {
		m := full.Clone()
		left := []int{0, 1, 2, 3, 4, 5, 6}
		for _, k := range l {
			if !m.Drop(k) {
				t.Fatal(l)
			}
			left = slices.DeleteFunc(left, func(n int) bool { return n == k })
			if !slices.Equal(sorted.Keys(m), left) {
				t.Fatal(l, sorted.Keys(m), left)
			}
		}
	}
}
