package recon_test

import (
	"math"
	"math/rand"
	"slices"
	"strings"
	"testing"

	"swingle/api"
	"swingle/archive"
	"swingle/detect"
	"swingle/name"
	"swingle/node"
	"swingle/recon"
	"swingle/tree"
)

const (
	begin = 0x210000 // 1980-01-01 00:00:00
	later = 46<<25 | 11<<21 | 20<<16
)

func file(data string) api.Node {
	return api.Node{Kind: api.File, Mode: 0o644, Time: begin, Data: data}
}

func dir(mode int) api.Node { return api.Node{Kind: api.Dir, Mode: mode} }

func item(path string, n api.Node) api.Item { return api.Item{Path: path, Node: n} }

func mark(path string, n api.Node) api.Mark { return api.Mark{Path: path, Print: node.Print(n)} }

// of is a tree of items that must be those of one.
func of(t *testing.T, l ...api.Item) *tree.Tree {
	t.Helper()
	x, _, why := tree.Of(l...)
	if why != api.OK {
		t.Fatalf("%v: %d", l, why)
	}
	return x
}

// keep, toLeft, toRight and clash are steps.
func keep(path string, n api.Node) recon.Step {
	return recon.Step{Path: path, Verdict: 0, Left: n, Right: n}
}

func toLeft(path string, a, b api.Node) recon.Step {
	return recon.Step{Path: path, Verdict: 1, Left: a, Right: b}
}

func toRight(path string, a, b api.Node) recon.Step {
	return recon.Step{Path: path, Verdict: 2, Left: a, Right: b}
}

func clash(path string, class int, a, b api.Node) recon.Step {
	return recon.Step{Path: path, Verdict: 3, Class: class, Left: a, Right: b}
}

// tells fails if there is anything else.
func tells(t *testing.T, got []recon.Step, want ...recon.Step) {
	t.Helper()
	if !slices.Equal(got, want) {
		t.Errorf("%v, not %v", got, want)
	}
}

// sides have what may become of a path, each of it. By bytes a-b would stand ahead of a/b.
func sides(t *testing.T) (b api.Base, left, right *tree.Tree, want []recon.Step) {
	b = api.Base{
		Agreed: []api.Mark{mark("a", dir(0o755)), mark("a/1", file("1")), mark("a/2", file("2")), mark("a/3", file("3")), mark("a/b", file("4")), mark("a-b", file("5")), mark("d", dir(0)), mark("f", file("6")), mark("g", file("7"))},
		Held:   []api.Mark{mark("a/4", file("8")), mark("h", file("9")), mark("k", dir(0)), mark("z", file("10"))},
	}
	left = of(t, item("a", dir(0o755)), item("a/1", file("1")), item("a/2", file("22")), item("a/3", file("33")), item("a/4", file("8")), item("a/new", file("n")), item("a/b", file("4")),
		item("a-b", file("55")), item("d", dir(1)), item("e", file("e")), item("f", dir(0)), item("h", file("99")), item("k", dir(0)), item("m", file("m")), item("n", file("n")))
	right = of(t, item("a", dir(0o755)), item("a/1", file("11")), item("a/2", file("2")), item("a/3", file("333")), item("a/4", file("88")),
		item("d", dir(2)), item("f", file("66")), item("g", file("77")), item("h", file("9")), item("k", dir(7)), item("m", file("m")), item("n", dir(0)), item("o", dir(0)), item("o/o", file("")))
	none := api.Node{}
	want = []recon.Step{
		keep("a", dir(0o755)), toLeft("a/1", file("1"), file("11")), toRight("a/2", file("22"), file("2")), clash("a/3", 1, file("33"), file("333")), toLeft("a/4", file("8"), file("88")), toLeft("a/b", file("4"), none),
		toRight("a/new", file("n"), none), clash("a-b", 2, file("55"), none), clash("d", 1, dir(1), dir(2)), toRight("e", file("e"), none), clash("f", 3, dir(0), file("66")), clash("g", 2, none, file("77")),
		toRight("h", file("99"), file("9")), toLeft("k", dir(0), dir(7)), keep("m", file("m")), clash("n", 3, file("n"), dir(0)), toLeft("o", none, dir(0)), toLeft("o/o", none, file("")), keep("z", none),
	}
	return b, left, right, want
}

// P30.1

func TestNames(t *testing.T) {
	if l := [4]int{recon.Keep, recon.ToLeft, recon.ToRight, recon.Conflict}; l != [4]int{0, 1, 2, 3} {
		t.Error(l)
	}
}

func TestClass(t *testing.T) {
	none := api.Node{}
	for _, c := range []struct {
		a, b api.Node
		want int
	}{
		{file("1"), file("2"), 1}, {file("1"), file("1"), 1}, {dir(1), dir(2), 1}, {file("1"), none, 2}, {none, file(""), 2}, {dir(0), none, 2}, {none, dir(7), 2}, {none, none, 2}, {file("1"), dir(0), 3}, {dir(0), file(""), 3},
		// What may be no node has a kind, too.
		{api.Node{Kind: 9}, api.Node{Kind: 9, Mode: 1}, 1}, {api.Node{Kind: -1}, api.Node{Data: "x"}, 2}, {api.Node{Kind: 9}, file(""), 3},
	} {
		if got := recon.Class(c.a, c.b); got != c.want {
			t.Errorf("%v, %v: %d, not %d", c.a, c.b, got, c.want)
		}
	}
	if api.Both != 1 || api.Gone != 2 || api.Kinds != 3 {
		t.Error("other classes")
	}
}

func TestDecide(t *testing.T) {
	none, was := api.Node{}, file("was")
	for _, c := range []struct {
		was            api.Node
		had            bool
		a, b           api.Node
		verdict, class int
	}{
		// Alike on both sides.
		{was, true, was, was, 0, 0}, {was, true, file("x"), file("x"), 0, 0}, {was, true, none, none, 0, 0}, {none, false, file("x"), file("x"), 0, 0}, {none, false, dir(3), dir(3), 0, 0}, {none, false, none, none, 0, 0}, {was, true, dir(0), dir(0), 0, 0},
		// The right side alone changed it.
		{was, true, was, file("x"), 1, 0}, {was, true, was, none, 1, 0}, {was, true, was, dir(0), 1, 0}, {dir(1), true, dir(1), dir(2), 1, 0}, {dir(1), true, dir(1), file(""), 1, 0}, {none, false, none, file("x"), 1, 0}, {none, false, none, dir(0), 1, 0},
		// The left side alone did.
		{was, true, file("x"), was, 2, 0}, {was, true, none, was, 2, 0}, {was, true, dir(0), was, 2, 0}, {dir(1), true, dir(2), dir(1), 2, 0}, {none, false, file("x"), none, 2, 0}, {none, false, dir(0), none, 2, 0},
		// Both did, unlike.
		{was, true, file("x"), file("y"), 3, 1}, {none, false, file("x"), file("y"), 3, 1}, {was, true, dir(1), dir(2), 3, 1}, {none, false, dir(1), dir(2), 3, 1}, {was, true, file("x"), none, 3, 2}, {was, true, none, file("x"), 3, 2}, {was, true, dir(0), none, 3, 2},
		{was, true, file("x"), dir(0), 3, 3}, {none, false, dir(0), file("x"), 3, 3}, {dir(5), true, dir(6), file(""), 3, 3},
		// What was counts for nothing where nothing was had.
		{was, false, was, file("x"), 3, 1}, {was, false, was, none, 2, 0}, {was, false, none, was, 1, 0},
		// A print of nothing that was had is that of nothing.
		{none, true, none, file("x"), 1, 0}, {none, true, file("x"), none, 2, 0},
	} {
		verdict, class := recon.Decide(node.Print(c.was), c.had, c.a, c.b)
		if verdict != c.verdict || class != c.class {
			t.Errorf("%v, %v, %v, %v: %d, %d, not %d, %d", c.was, c.had, c.a, c.b, verdict, class, c.verdict, c.class)
		}
	}
}

// Each of what a print has is a change by itself.
func TestDecideByPrints(t *testing.T) {
	was := file("123")
	for _, alter := range []func(n *api.Node){
		func(n *api.Node) { n.Mode = 0 }, func(n *api.Node) { n.Time = later }, func(n *api.Node) { n.Data = "124" }, func(n *api.Node) { n.Data = "" },
	} {
		n := was
		alter(&n)
		if verdict, _ := recon.Decide(node.Print(was), true, n, was); verdict != recon.ToRight {
			t.Error(n, verdict)
		}
		if verdict, _ := recon.Decide(node.Print(was), true, was, n); verdict != recon.ToLeft {
			t.Error(n, verdict)
		}
	}
	// A sum of 32 bits is all that is known of bytes: these have one.
	a, b := file("plumless"), file("buckeroo")
	if verdict, class := recon.Decide(node.Print(was), true, a, b); verdict != recon.Keep || class != 0 {
		t.Error(verdict, class)
	}
	if verdict, _ := recon.Decide(node.Print(a), true, b, was); verdict != recon.ToLeft {
		t.Error(verdict)
	}
}

// P30.2

func TestAll(t *testing.T) {
	b, left, right, want := sides(t)
	tells(t, recon.All(b, left, right), want...)
	tells(t, slices.Collect(recon.Each(b, left, right)), want...)
}

func TestAllOfNothing(t *testing.T) {
	none := api.Node{}
	some := of(t, item("a", dir(0)), item("a/b", file("1")))
	b := api.Base{Agreed: []api.Mark{mark("a", dir(0))}, Held: []api.Mark{mark("a/b", file("1"))}}
	for _, x := range []*tree.Tree{nil, tree.New()} {
		tells(t, recon.All(api.Base{}, x, x))
		tells(t, recon.All(api.Base{}, x, nil))
		tells(t, recon.All(b, nil, x), keep("a", none), keep("a/b", none))
		tells(t, recon.All(api.Base{}, x, some), toLeft("a", none, dir(0)), toLeft("a/b", none, file("1")))
		tells(t, recon.All(api.Base{}, some, x), toRight("a", dir(0), none), toRight("a/b", file("1"), none))
		tells(t, recon.All(b, x, some), toRight("a", none, dir(0)), toRight("a/b", none, file("1")))
		tells(t, recon.All(b, some, x), toLeft("a", dir(0), none), toLeft("a/b", file("1"), none))
	}
	tells(t, recon.All(api.Base{}, some, some), keep("a", dir(0)), keep("a/b", file("1")))
	tells(t, recon.All(b, some, some.Clone()), keep("a", dir(0)), keep("a/b", file("1")))
}

// Nodes that are held for the same stay each side's own.
func TestBothNodesAreTold(t *testing.T) {
	a, b := file("plumless"), file("buckeroo")
	tells(t, recon.All(api.Base{}, of(t, item("x", a)), of(t, item("x", b))), recon.Step{Path: "x", Left: a, Right: b})
}

func TestEachEndsWhenWhoAsksDoes(t *testing.T) {
	b, left, right, want := sides(t)
	for n := range want {
		var l []recon.Step
		for s := range recon.Each(b, left, right) {
			if l = append(l, s); len(l) > n {
				break
			}
		}
		tells(t, l, want[:n+1]...)
	}
}

func TestEachGoesByWhatWasThere(t *testing.T) {
	b, left, right, want := sides(t)
	alter := func() {
		b.Agreed[1], b.Held[0] = mark("a/0", dir(0)), mark("a/5", dir(0))
		left.Put("x", dir(0))
		left.Drop("e")
		right.Put("e", dir(0))
		right.Drop("a/2")
	}
	all := recon.Each(b, left, right)
	alter()
	tells(t, slices.Collect(all), want...)
	tells(t, slices.Collect(all), want...) // as often as it is asked
	b, left, right, want = sides(t)
	var l []recon.Step
	for s := range recon.Each(b, left, right) {
		l = append(l, s)
		alter()
	}
	tells(t, l, want...)
}

func TestCount(t *testing.T) {
	_, _, _, l := sides(t)
	if got := recon.Count(l); got != [4]int{3, 6, 4, 6} {
		t.Error(got)
	}
	if got := recon.Count(nil); got != [4]int{} {
		t.Error(got)
	}
	l = []recon.Step{{Verdict: -1}, {Verdict: 4}, {Verdict: math.MaxInt}, {Verdict: math.MinInt}, {Path: "a", Verdict: 3}, {Path: "a", Verdict: 3, Class: 9}, {}}
	if got := recon.Count(l); got != [4]int{1, 0, 0, 2} {
		t.Error(got)
	}
}

// dealt is a tree by dice, of few paths and nodes, so that two of them have much in common.
func dealt(dice *rand.Rand, many int) *tree.Tree {
	x := tree.New()
	for range many {
		path := "abc"[dice.Intn(3):][:1]
		for range dice.Intn(3) {
			path += []string{"/a", "/b", "-b"}[dice.Intn(3)]
		}
		x.Put(path, []api.Node{file(""), file("1"), file("2"), dir(0), dir(0), dir(0), dir(7)}[dice.Intn(7)])
	}
	return x
}

// known is a Base that is right, by dice, of prints of trees.
func known(t *testing.T, dice *rand.Rand, l ...*tree.Tree) api.Base {
	t.Helper()
	prints := map[string]api.Print{}
	for _, x := range l {
		for _, m := range archive.Marks(x) {
			if _, had := prints[m.Path]; !had || dice.Intn(2) == 0 {
				prints[m.Path] = m.Print
			}
		}
	}
	var b api.Base
	for path, p := range prints {
		switch m := (api.Mark{Path: path, Print: p}); dice.Intn(4) {
		case 0:
			b.Held = append(b.Held, m)
		case 1, 2:
			b.Agreed = append(b.Agreed, m)
		}
	}
	byPath := func(a, b api.Mark) int { return name.Order(a.Path, b.Path) }
	slices.SortFunc(b.Agreed, byPath)
	slices.SortFunc(b.Held, byPath)
	if !archive.Right(b) {
		t.Fatal(b)
	}
	return b
}

// told is All, by the chapter's words.
func told(b api.Base, left, right *tree.Tree) []recon.Step {
	var l []recon.Step
	for _, path := range detect.Paths(b, left, right) {
		s := recon.Step{Path: path, Left: left.Get(path), Right: right.Get(path)}
		leftSame, rightSame := !detect.Changed(b, left, path), !detect.Changed(b, right, path)
		switch {
		case node.Print(s.Left) == node.Print(s.Right):
		case leftSame:
			s.Verdict = recon.ToLeft
		case rightSame:
			s.Verdict = recon.ToRight
		default:
			s.Verdict, s.Class = recon.Conflict, api.Both
			if left.Get(path).Kind != right.Get(path).Kind {
				s.Class = api.Kinds
			}
			if left.Get(path) == (api.Node{}) || right.Get(path) == (api.Node{}) {
				s.Class = api.Gone
			}
		}
		l = append(l, s)
	}
	return l
}

func TestAsItIsTold(t *testing.T) {
	dice := rand.New(rand.NewSource(1))
	seen := map[[2]int]int{}
	for range 400 {
		left, right := dealt(dice, dice.Intn(20)), dealt(dice, dice.Intn(20))
		b := known(t, dice, left, right, dealt(dice, 9))
		want := told(b, left, right)
		tells(t, recon.All(b, left, right), want...)
		tells(t, slices.Collect(recon.Each(b, left, right)), want...)
		var many [4]int
		for _, s := range want {
			many[s.Verdict]++
			seen[[2]int{s.Verdict, s.Class}]++
		}
		if got := recon.Count(want); got != many {
			t.Error(got, many)
		}
	}
	if len(seen) != 6 {
		t.Error("not all verdicts and classes come", seen)
	}
}

// P30.3

// turned is steps with both sides the other way round.
func turned(l []recon.Step) []recon.Step {
	var out []recon.Step
	for _, s := range l {
		s.Left, s.Right = s.Right, s.Left
		switch s.Verdict {
		case recon.ToLeft:
			s.Verdict = recon.ToRight
		case recon.ToRight:
			s.Verdict = recon.ToLeft
		}
		out = append(out, s)
	}
	return out
}

func TestTheOtherWayRound(t *testing.T) {
	b, left, right, want := sides(t)
	tells(t, recon.All(b, right, left), turned(want)...)
	dice := rand.New(rand.NewSource(2))
	for range 300 {
		left, right := dealt(dice, dice.Intn(20)), dealt(dice, dice.Intn(20))
		b := known(t, dice, left, right, dealt(dice, 9))
		tells(t, recon.All(b, right, left), turned(recon.All(b, left, right))...)
		for path := range left.All() {
			x, y := left.Get(path), right.Get(path)
			if recon.Class(x, y) != recon.Class(y, x) {
				t.Error(x, y)
			}
		}
	}
}

// P1

func TestAllCallsEnd(t *testing.T) {
	odd := []api.Node{{}, file(""), dir(0), {Kind: 9, Mode: math.MinInt, Time: math.MaxUint32, Data: strings.Repeat("x", 70000)}, {Kind: -1}, {Data: "x"}}
	for _, a := range odd {
		for _, b := range odd {
			recon.Class(a, b)
			recon.Decide(api.Print{Kind: math.MinInt, Size: -1}, true, a, b)
			recon.Decide(node.Print(a), true, a, b)
			recon.Decide(node.Print(a), false, b, a)
		}
	}
	_, left, right, _ := sides(t)
	print := node.Print(odd[3])
	for _, b := range []api.Base{
		{Agreed: []api.Mark{{Path: "b"}, {Path: "a"}, {Path: "a"}}}, {Held: []api.Mark{{Path: "", Print: print}, {Path: "/", Print: print}, {Path: "../x"}, {Path: "\xff"}}},
		{Agreed: []api.Mark{mark("a", file("1"))}, Held: []api.Mark{mark("a", file("2"))}}, {Agreed: []api.Mark{{Path: strings.Repeat("x/", 5000)}}},
	} {
		for _, x := range []*tree.Tree{nil, {}, left} {
			for _, y := range []*tree.Tree{nil, {}, right} {
				recon.Count(recon.All(b, x, y))
				for range recon.Each(b, x, y) {
					break
				}
			}
		}
	}
}

// Rules 4 and 6

func TestWhatIsHandedInStays(t *testing.T) {
	b, left, right, want := sides(t)
	spare := func(l []api.Mark) []api.Mark { return append(make([]api.Mark, 0, 30), l...) }
	handed := api.Base{Agreed: spare(b.Agreed), Held: spare(b.Held)}
	got := recon.All(handed, left, right)
	for range recon.Each(handed, left, right) {
	}
	was := slices.Clone(got)
	recon.Count(got)
	_, l, r, _ := sides(t)
	if !archive.Same(handed, b) || !slices.Equal(got, was) || !tree.Whole(left, l) || !tree.Whole(right, r) {
		t.Error("changed")
	}
	for _, m := range append(handed.Agreed[len(b.Agreed):30], handed.Held[len(b.Held):30]...) {
		if m != (api.Mark{}) {
			t.Error(m)
		}
	}
	for i := range got {
		got[i] = recon.Step{Path: "z"}
	}
	tells(t, recon.All(handed, left, right), want...)
}
