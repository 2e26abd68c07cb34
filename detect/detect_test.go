package detect_test

import (
	"math"
	"math/rand"
	"slices"
	"sort"
	"strings"
	"testing"

	"swingle/api"
	"swingle/archive"
	"swingle/detect"
	"swingle/name"
	"swingle/node"
	"swingle/tree"
)

const (
	begin = 0x210000 // 1980-01-01 00:00:00
	later = 46<<25 | 11<<21 | 20<<16
)

func file(data string) api.Node {
	return api.Node{Kind: api.File, Mode: 0o644, Time: begin, Data: data}
}

func dir(mode int) api.Node { return api.Node{Kind: api.Dir, Mode: mode} }

func item(path string, n api.Node) api.Item { return api.Item{Path: path, Node: n} }

// of is a tree of items that must be those of one.
func of(t *testing.T, l ...api.Item) *tree.Tree {
	t.Helper()
	x, _, why := tree.Of(l...)
	if why != api.OK {
		t.Fatalf("%v: %d", l, why)
	}
	return x
}

func mark(path string, n api.Node) api.Mark { return api.Mark{Path: path, Print: node.Print(n)} }

func found(path string, state int) detect.Found { return detect.Found{Path: path, State: state} }

// tells fails if there is anything else.
func tells(t *testing.T, got []detect.Found, want ...detect.Found) {
	t.Helper()
	if !slices.Equal(got, want) {
		t.Errorf("%v, not %v", got, want)
	}
}

// base and now differ in all ways. By bytes a-b would stand ahead of a/b.
func base() api.Base {
	return api.Base{
		Agreed: []api.Mark{mark("a", dir(0o755)), mark("a/gone", file("1")), mark("a/kept", file("2")), mark("a-b", file("4")), mark("d", dir(0)), mark("z", file("6"))},
		Held:   []api.Mark{mark("a/also", file("8")), mark("b", file("7")), mark("k", dir(0)), mark("x", file(""))},
	}
}

func now(t *testing.T) *tree.Tree {
	return of(t, item("a", dir(0o700)), item("a/kept", file("2")), item("a/new", file("2")), item("a-b", file("44")), item("b", file("7")), item("d", file("")), item("k", dir(0)), item("k/k", dir(0)), item("x", file("x")))
}

// P29.1

func TestNames(t *testing.T) {
	if l := [4]int{detect.Same, detect.Made, detect.Altered, detect.Gone}; l != [4]int{0, 1, 2, 3} {
		t.Error(l)
	}
}

func TestState(t *testing.T) {
	f, none := file("abc"), api.Node{}
	for _, c := range []struct {
		was  api.Print
		had  bool
		n    api.Node
		want int
	}{
		{node.Print(f), true, f, detect.Same}, {node.Print(dir(5)), true, dir(5), detect.Same}, {api.Print{}, false, none, detect.Same},
		{api.Print{}, false, f, detect.Made}, {api.Print{}, false, dir(0), detect.Made}, {api.Print{}, false, file(""), detect.Made},
		{node.Print(f), true, none, detect.Gone}, {node.Print(dir(0)), true, none, detect.Gone},
		{node.Print(f), true, file("abd"), detect.Altered}, {node.Print(f), true, file("abcd"), detect.Altered}, {node.Print(f), true, dir(0), detect.Altered}, {node.Print(dir(0)), true, f, detect.Altered}, {node.Print(dir(0)), true, dir(1), detect.Altered},
		{node.Print(f), true, api.Node{Kind: api.File, Mode: 0o600, Time: begin, Data: "abc"}, detect.Altered}, {node.Print(f), true, api.Node{Kind: api.File, Mode: 0o644, Time: later, Data: "abc"}, detect.Altered},
		// What was counts for nothing where nothing was had.
		{node.Print(f), false, f, detect.Made}, {node.Print(f), false, none, detect.Same}, {node.Print(f), false, dir(0), detect.Made},
		// A print of nothing that was had is that of nothing.
		{api.Print{}, true, none, detect.Same}, {api.Print{}, true, f, detect.Altered}, {api.Print{Mode: 1}, true, none, detect.Gone},
	} {
		if got := detect.State(c.was, c.had, c.n); got != c.want {
			t.Errorf("%v, %v, %v: %d, not %d", c.was, c.had, c.n, got, c.want)
		}
	}
}

// By prints alone: bytes of the same sum and size are held for the same.
func TestStateIsByPrints(t *testing.T) {
	a, b := "plumless", "buckeroo"
	if detect.State(node.Print(file(a)), true, file(b)) != detect.Same {
		t.Error(node.Print(file(a)), node.Print(file(b)))
	}
}

func TestPaths(t *testing.T) {
	want := []string{"a", "a/also", "a/gone", "a/kept", "a/new", "a-b", "b", "d", "k", "k/k", "x", "z"}
	if got := detect.Paths(base(), now(t)); !slices.Equal(got, want) {
		t.Error(got)
	}
	other := of(t, item("a", file("")), item("c", dir(0)), item("c/c", dir(0)), item("A", dir(0)))
	want = []string{"A", "a", "a/also", "a/gone", "a/kept", "a/new", "a-b", "b", "c", "c/c", "d", "k", "k/k", "x", "z"}
	if got := detect.Paths(base(), now(t), other, nil, now(t), tree.New()); !slices.Equal(got, want) {
		t.Error(got)
	}
}

func TestPathsOfFew(t *testing.T) {
	b := base()
	for _, c := range []struct {
		got  []string
		want string
	}{
		{detect.Paths(api.Base{}), ""}, {detect.Paths(api.Base{}, nil), ""}, {detect.Paths(api.Base{}, tree.New()), ""}, {detect.Paths(api.Base{}, nil, now(t)), "a a/kept a/new a-b b d k k/k x"},
		{detect.Paths(b), "a a/also a/gone a/kept a-b b d k x z"}, {detect.Paths(api.Base{Agreed: b.Agreed}), "a a/gone a/kept a-b d z"}, {detect.Paths(api.Base{Held: b.Held}), "a/also b k x"},
	} {
		if got := strings.Join(c.got, " "); got != c.want {
			t.Errorf("%q, not %q", got, c.want)
		}
	}
}

// P29.2

func TestAll(t *testing.T) {
	tells(t, detect.All(base(), now(t)),
		found("a", detect.Altered), found("a/also", detect.Gone), found("a/gone", detect.Gone), found("a/kept", detect.Same), found("a/new", detect.Made), found("a-b", detect.Altered), found("b", detect.Same),
		found("d", detect.Altered), found("k", detect.Same), found("k/k", detect.Made), found("x", detect.Altered), found("z", detect.Gone))
}

func TestOf(t *testing.T) {
	tells(t, detect.Of(base(), now(t)),
		found("a", detect.Altered), found("a/also", detect.Gone), found("a/gone", detect.Gone), found("a/new", detect.Made), found("a-b", detect.Altered),
		found("d", detect.Altered), found("k/k", detect.Made), found("x", detect.Altered), found("z", detect.Gone))
}

func TestOfNothing(t *testing.T) {
	some := of(t, item("a", dir(0)), item("a/b", file("1")))
	b := api.Base{Agreed: []api.Mark{mark("a", dir(0))}, Held: []api.Mark{mark("a/b", file("1"))}}
	for _, x := range []*tree.Tree{nil, tree.New()} {
		tells(t, detect.All(api.Base{}, x))
		tells(t, detect.Of(api.Base{}, x))
		tells(t, detect.All(b, x), found("a", detect.Gone), found("a/b", detect.Gone))
		tells(t, detect.Of(b, x), found("a", detect.Gone), found("a/b", detect.Gone))
		if detect.Changed(api.Base{}, x, "a") || !detect.Changed(b, x, "a") {
			t.Error("changed")
		}
	}
	tells(t, detect.All(api.Base{}, some), found("a", detect.Made), found("a/b", detect.Made))
	tells(t, detect.All(b, some), found("a", detect.Same), found("a/b", detect.Same))
	tells(t, detect.Of(b, some))
}

func TestChanged(t *testing.T) {
	for path, want := range map[string]bool{
		"a": true, "a/also": true, "a/gone": true, "a/kept": false, "a/new": true, "a-b": true, "b": false, "d": true, "k": false, "k/k": true, "x": true, "z": true,
		// What neither side has, and what may be no path, isn't changed.
		"": false, "nowhere": false, "/": false, "a/": false, ".swingle": false, "a\x00": false,
	} {
		if got := detect.Changed(base(), now(t), path); got != want {
			t.Errorf("%q: %v", path, got)
		}
	}
}

func TestCount(t *testing.T) {
	if got := detect.Count(detect.All(base(), now(t))); got != [4]int{3, 2, 4, 3} {
		t.Error(got)
	}
	if got := detect.Count(nil); got != [4]int{} {
		t.Error(got)
	}
	l := []detect.Found{{State: -1}, {State: 4}, {State: math.MaxInt}, {State: math.MinInt}, {Path: "a", State: 3}, {Path: "a", State: 3}, {}}
	if got := detect.Count(l); got != [4]int{1, 0, 0, 2} {
		t.Error(got)
	}
}

// P29.3

// grown is a tree by dice.
func grown(dice *rand.Rand, many int) *tree.Tree {
	x := tree.New()
	tops := []string{""}
	for range many {
		path := tops[dice.Intn(len(tops))] + string(rune('a'+dice.Intn(4)))
		n := file(strings.Repeat("x", dice.Intn(3)))
		if dice.Intn(2) == 0 {
			n = dir(dice.Intn(2))
		}
		if x.Put(path, n) == api.OK && n.Kind == api.Dir {
			tops = append(tops, path+"/")
		}
	}
	return x
}

func TestOwnMarks(t *testing.T) {
	dice := rand.New(rand.NewSource(1))
	for range 50 {
		x := grown(dice, 20)
		b := api.Base{Agreed: archive.Marks(x)}
		tells(t, detect.Of(b, x))
		if got := detect.Count(detect.All(b, x)); got != [4]int{x.Len()} {
			t.Error(got)
		}
		for path := range x.All() {
			y := x.Clone()
			if detect.Changed(b, y, path) {
				t.Error(path)
			}
			if y.Drop(path) == api.OK {
				tells(t, detect.Of(b, y), found(path, detect.Gone))
			}
		}
	}
}

// known is a Base by dice, that is right, of the prints of two trees.
func known(dice *rand.Rand, x, y *tree.Tree) api.Base {
	var b api.Base
	prints := map[string]api.Print{}
	for _, m := range append(archive.Marks(x), archive.Marks(y)...) {
		prints[m.Path] = m.Print
	}
	var paths []string
	for path := range prints {
		paths = append(paths, path)
	}
	sort.Slice(paths, func(i, k int) bool { return name.Order(paths[i], paths[k]) < 0 })
	for _, path := range paths {
		switch m := (api.Mark{Path: path, Print: prints[path]}); dice.Intn(3) {
		case 0:
			b.Agreed = append(b.Agreed, m)
		case 1:
			b.Held = append(b.Held, m)
		}
	}
	return b
}

// slow tells the state of all that either has, by the chapter's words.
func slow(b api.Base, x *tree.Tree) []detect.Found {
	was, is := map[string]api.Print{}, map[string]api.Print{}
	for _, m := range append(slices.Clone(b.Agreed), b.Held...) {
		was[m.Path] = m.Print
	}
	for _, m := range archive.Marks(x) {
		is[m.Path] = m.Print
	}
	var l []detect.Found
	for path, p := range was {
		state := detect.Altered
		if q, ok := is[path]; !ok {
			state = detect.Gone
		} else if p == q {
			state = detect.Same
		}
		l = append(l, found(path, state))
	}
	for path := range is {
		if _, ok := was[path]; !ok {
			l = append(l, found(path, detect.Made))
		}
	}
	sort.Slice(l, func(i, k int) bool { return name.Order(l[i].Path, l[k].Path) < 0 })
	return l
}

func TestAsItIsTold(t *testing.T) {
	dice := rand.New(rand.NewSource(2))
	for range 200 {
		x, y := grown(dice, dice.Intn(15)), grown(dice, dice.Intn(15))
		b := known(dice, x, y)
		if !archive.Right(b) {
			t.Fatal(b)
		}
		want := slow(b, x)
		tells(t, detect.All(b, x), want...)
		var paths []string
		var many [4]int
		var changed []detect.Found
		for _, f := range want {
			paths = append(paths, f.Path)
			many[f.State]++
			if detect.Changed(b, x, f.Path) != (f.State != detect.Same) {
				t.Error(f)
			}
			if f.State != detect.Same {
				changed = append(changed, f)
			}
		}
		tells(t, detect.Of(b, x), changed...)
		if got := detect.Paths(b, x); !slices.Equal(got, paths) {
			t.Error(got, paths)
		}
		if got := detect.Count(want); got != many {
			t.Error(got, many)
		}
	}
}

// P1

// wrongBases are Bases that aren't Right.
func wrongBases() []api.Base {
	odd := api.Print{Kind: -1, Mode: math.MaxInt, Size: math.MinInt}
	return []api.Base{
		{Agreed: []api.Mark{{Path: "b"}, {Path: "a"}, {Path: "a"}}}, {Held: []api.Mark{{Path: "", Print: odd}, {Path: "/", Print: odd}, {Path: "../x"}, {Path: "\xff"}}},
		{Agreed: []api.Mark{mark("a", file("1"))}, Held: []api.Mark{mark("a", file("2"))}}, {Agreed: []api.Mark{{Path: strings.Repeat("x/", 5000)}}},
	}
}

func TestAllCallsEnd(t *testing.T) {
	odd := api.Node{Kind: 9, Mode: math.MinInt, Time: math.MaxUint32, Data: strings.Repeat("x", 70000)}
	for _, had := range []bool{false, true} {
		detect.State(api.Print{Kind: math.MinInt}, had, odd)
		detect.State(node.Print(odd), had, api.Node{Data: "x"})
	}
	for _, b := range append(wrongBases(), base(), api.Base{}) {
		for _, x := range []*tree.Tree{nil, {}, tree.New(), now(t)} {
			detect.All(b, x)
			detect.Of(b, x)
			detect.Paths(b, x, nil, x)
			for _, path := range []string{"", "a", "/", "\x00", "\xff", strings.Repeat("a/", 300)} {
				detect.Changed(b, x, path)
			}
		}
	}
}

// Rules 4 and 6

func TestWhatIsHandedInStays(t *testing.T) {
	b, x := base(), now(t)
	agreed := append(make([]api.Mark, 0, 30), b.Agreed...)
	held := append(make([]api.Mark, 0, 30), b.Held...)
	trees := append(make([]*tree.Tree, 0, 9), x, nil)
	handed := api.Base{Agreed: agreed, Held: held}
	detect.All(handed, x)
	detect.Of(handed, x)
	detect.Changed(handed, x, "a")
	l := detect.Paths(handed, trees...)
	l = append(l[:0], slices.Repeat([]string{"z"}, len(l))...)
	f := detect.All(handed, x)
	was := slices.Clone(f)
	detect.Count(f)
	if !archive.Same(handed, b) || !slices.Equal(f, was) || !tree.Whole(x, now(t)) || trees[0] != x || trees[1] != nil || trees[:9][2] != nil {
		t.Error("changed", l)
	}
	for _, m := range append(agreed[len(agreed):30], held[len(held):30]...) {
		if m != (api.Mark{}) {
			t.Error(m)
		}
	}
	f[0].Path = "z"
	if detect.All(handed, x)[0].Path != "a" {
		t.Error("kept")
	}
}
