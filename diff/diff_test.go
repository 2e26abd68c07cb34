package diff_test

import (
	"math"
	"math/rand"
	"slices"
	"strconv"
	"strings"
	"testing"

	"swingle/api"
	"swingle/diff"
	"swingle/name"
	"swingle/node"
	"swingle/tree"
)

const (
	begin = 0x210000 // 1980-01-01 00:00:00
	later = 46<<25 | 11<<21 | 20<<16
)

func file(data string) api.Node {
	return api.Node{Kind: api.File, Mode: 0o644, Time: begin, Data: data}
}

func dir(mode int) api.Node { return api.Node{Kind: api.Dir, Mode: mode} }

func item(path string, n api.Node) api.Item { return api.Item{Path: path, Node: n} }

// of is a tree of items that must be those of one.
func of(t *testing.T, l ...api.Item) *tree.Tree {
	t.Helper()
	x, _, why := tree.Of(l...)
	if why != api.OK {
		t.Fatalf("%v: %d", l, why)
	}
	return x
}

func change(kind int, path string) diff.Change { return diff.Change{Kind: kind, Path: path} }

func moved(path, from string) diff.Change {
	return diff.Change{Kind: diff.Moved, Path: path, From: from}
}

// tells fails if there is anything else.
func tells(t *testing.T, got []diff.Change, want ...diff.Change) {
	t.Helper()
	if !slices.Equal(got, want) {
		t.Errorf("%v, not %v", got, want)
	}
}

// each is all that Each tells.
func each(a, b *tree.Tree) []diff.Change { return slices.Collect(diff.Each(a, b)) }

// before and behind differ in all ways. By bytes a-b would stand ahead of a/b.
func before(t *testing.T) *tree.Tree {
	return of(t, item("a", dir(0o755)), item("a/gone", file("1")), item("a/kept", file("2")), item("a/m", file("long")), item("a-b", file("4")), item("d", dir(0)), item("d/x", file("5")), item("k", dir(0)), item("z", file("6")))
}

func behind(t *testing.T) *tree.Tree {
	return of(t, item("a", dir(0o700)), item("a/kept", file("2")), item("a/new", file("new")), item("a-b", file("44")), item("d", file("d")), item("k", dir(0)), item("n", dir(0)), item("n/m", file("long")), item("z", dir(0)))
}

// P41.1

func TestEach(t *testing.T) {
	tells(t, each(before(t), behind(t)),
		change(diff.Altered, "a"), change(diff.Removed, "a/gone"), change(diff.Removed, "a/m"), change(diff.Added, "a/new"), change(diff.Altered, "a-b"), change(diff.Turned, "d"), change(diff.Removed, "d/x"),
		change(diff.Added, "n"), change(diff.Added, "n/m"), change(diff.Turned, "z"))
	tells(t, each(behind(t), before(t)),
		change(diff.Altered, "a"), change(diff.Added, "a/gone"), change(diff.Added, "a/m"), change(diff.Removed, "a/new"), change(diff.Altered, "a-b"), change(diff.Turned, "d"), change(diff.Added, "d/x"),
		change(diff.Removed, "n"), change(diff.Removed, "n/m"), change(diff.Turned, "z"))
}

func TestEachOfNothing(t *testing.T) {
	a := of(t, item("a", dir(0)), item("a/b", file("1")))
	for _, x := range []*tree.Tree{nil, tree.New()} {
		tells(t, each(x, a), change(diff.Added, "a"), change(diff.Added, "a/b"))
		tells(t, each(a, x), change(diff.Removed, "a"), change(diff.Removed, "a/b"))
		tells(t, each(x, nil))
		tells(t, each(x, tree.New()))
	}
}

func TestEachGoesByPrints(t *testing.T) {
	n := file("123")
	for _, alter := range []func(n *api.Node){
		func(n *api.Node) { n.Mode = 0 }, func(n *api.Node) { n.Time = later }, func(n *api.Node) { n.Data = "124" }, func(n *api.Node) { n.Data = "" },
	} {
		other := n
		alter(&other)
		tells(t, each(of(t, item("x", n)), of(t, item("x", other))), change(diff.Altered, "x"))
	}
	// A sum of 32 bits is all that is known of bytes: these have one.
	a, b := file("plumless"), file("buckeroo")
	if !node.Same(a, b) {
		t.Fatal("other sums")
	}
	tells(t, each(of(t, item("x", a)), of(t, item("x", b))))
}

func TestEachEndsWhenWhoAsksDoes(t *testing.T) {
	for n := range 10 {
		var l []diff.Change
		for c := range diff.Each(before(t), behind(t)) {
			if l = append(l, c); len(l) > n {
				break
			}
		}
		tells(t, l, each(before(t), behind(t))[:n+1]...)
	}
}

func TestEachGoesByWhatWasThere(t *testing.T) {
	a, b := of(t, item("a", dir(0)), item("c", dir(0))), of(t, item("b", dir(0)), item("c", dir(1)))
	all := diff.Each(a, b)
	want := []diff.Change{change(diff.Removed, "a"), change(diff.Added, "b"), change(diff.Altered, "c")}
	a.Put("x", dir(0))
	b.Drop("b")
	tells(t, slices.Collect(all), want...)
	tells(t, slices.Collect(all), want...) // as often as it is asked
	a.Drop("x")
	b.Put("b", dir(0))
	var l []diff.Change
	for c := range diff.Each(a, b) {
		l = append(l, c)
		a.Drop("c")
		b.Drop("b")
	}
	tells(t, l, want...)
}

// P41.2

func TestMoves(t *testing.T) {
	tells(t, diff.Moves(before(t), behind(t)), moved("n/m", "a/m"))
	tells(t, diff.Moves(behind(t), before(t)), moved("a/m", "n/m"))
	tells(t, diff.Moves(before(t), before(t)))
	for _, x := range []*tree.Tree{nil, tree.New()} {
		tells(t, diff.Moves(before(t), x))
		tells(t, diff.Moves(x, before(t)))
		tells(t, diff.Moves(x, nil))
	}
}

func TestOf(t *testing.T) {
	tells(t, diff.Of(before(t), behind(t)),
		change(diff.Altered, "a"), change(diff.Removed, "a/gone"), change(diff.Added, "a/new"), change(diff.Altered, "a-b"), change(diff.Turned, "d"), change(diff.Removed, "d/x"),
		change(diff.Added, "n"), moved("n/m", "a/m"), change(diff.Turned, "z"))
	tells(t, diff.Of(behind(t), before(t)),
		change(diff.Altered, "a"), change(diff.Added, "a/gone"), moved("a/m", "n/m"), change(diff.Removed, "a/new"), change(diff.Altered, "a-b"), change(diff.Turned, "d"), change(diff.Added, "d/x"),
		change(diff.Removed, "n"), change(diff.Turned, "z"))
	for _, x := range []*tree.Tree{nil, tree.New()} {
		tells(t, diff.Of(before(t), x), each(before(t), x)...)
		tells(t, diff.Of(x, before(t)), each(x, before(t))...)
	}
}

func TestFirstThatIsNotTaken(t *testing.T) {
	n, m := file("n"), file("m")
	a := of(t, item("1", n), item("2", m), item("3", n), item("4", n))
	b := of(t, item("0", n), item("5", m), item("6", n))
	tells(t, diff.Moves(a, b), moved("0", "1"), moved("5", "2"), moved("6", "3"))
	tells(t, diff.Of(a, b), moved("0", "1"), change(diff.Removed, "4"), moved("5", "2"), moved("6", "3"))
	tells(t, diff.Moves(b, a), moved("1", "0"), moved("2", "5"), moved("3", "6"))
	tells(t, diff.Of(b, a), moved("1", "0"), moved("2", "5"), moved("3", "6"), change(diff.Added, "4"))
}

func TestWhatIsNotMoved(t *testing.T) {
	for _, c := range [][2]api.Node{
		{file(""), file("")}, {dir(0), dir(0)}, {file("x"), file("y")}, {file("x"), {Kind: api.File, Mode: 0o600, Time: begin, Data: "x"}}, {file("x"), {Kind: api.File, Mode: 0o644, Time: later, Data: "x"}}, {dir(0o644), file("")},
	} {
		a, b := of(t, item("a", c[0])), of(t, item("b", c[1]))
		tells(t, diff.Moves(a, b))
		tells(t, diff.Of(a, b), change(diff.Removed, "a"), change(diff.Added, "b"))
	}
	// Neither Altered, nor Turned, nor the same on both.
	x := file("x")
	for _, c := range [][2][]api.Item{
		{{item("a", x), item("b", file("y"))}, {item("a", x), item("b", x)}}, {{item("a", x)}, {item("a", x), item("b", x)}}, {{item("a", x), item("b", x)}, {item("a", x)}}, {{item("a", x)}, {item("a", file("y")), item("b", x)}},
		{{item("a", x)}, {item("a", dir(0)), item("b", x)}}, {{item("a", x), item("b", dir(0))}, {item("b", x)}}, {{item("a", x), item("b", x)}, {item("a", file("y")), item("b", x)}},
	} {
		tells(t, diff.Moves(of(t, c[0]...), of(t, c[1]...)))
		tells(t, diff.Of(of(t, c[0]...), of(t, c[1]...)), each(of(t, c[0]...), of(t, c[1]...))...)
	}
}

// grown is a tree of a few paths and nodes, so that some come again.
func grown(dice *rand.Rand) *tree.Tree {
	x := tree.New()
	for range dice.Intn(40) {
		path := []string{"a", "b", "c", "d", "e", "a-b", "f", "g", "h"}[dice.Intn(9)]
		for dice.Intn(3) == 0 {
			path += []string{"/a", "/b", "/-"}[dice.Intn(3)]
		}
		if dice.Intn(2) == 0 {
			x.Put(path, file(strings.Repeat("x", dice.Intn(4))))
		} else {
			x.Put(path, dir(dice.Intn(2)))
		}
	}
	return x
}

// plain is Each, Moves and Of, by the words of P41.1 and P41.2.
func plain(a, b *tree.Tree) (all, moves, of []diff.Change) {
	var paths []string
	for _, x := range append(a.Items(), b.Items()...) {
		if !slices.Contains(paths, x.Path) {
			paths = append(paths, x.Path)
		}
	}
	slices.SortFunc(paths, name.Order)
	for _, p := range paths {
		x, y := a.Get(p), b.Get(p)
		switch {
		case node.Same(x, y):
		case x.Kind == api.None:
			all = append(all, change(diff.Added, p))
		case y.Kind == api.None:
			all = append(all, change(diff.Removed, p))
		case x.Kind != y.Kind:
			all = append(all, change(diff.Turned, p))
		default:
			all = append(all, change(diff.Altered, p))
		}
	}
	for _, c := range all {
		for _, other := range all {
			taken := slices.ContainsFunc(moves, func(m diff.Change) bool { return m.From == other.Path })
			n := b.Get(c.Path)
			if c.Kind == diff.Added && other.Kind == diff.Removed && !taken && n.Kind == api.File && len(n.Data) > 0 && node.Same(n, a.Get(other.Path)) {
				moves = append(moves, moved(c.Path, other.Path))
				break
			}
		}
	}
	for _, c := range all {
		at := slices.IndexFunc(moves, func(m diff.Change) bool { return m.Path == c.Path })
		switch {
		case at >= 0:
			of = append(of, moves[at])
		case !slices.ContainsFunc(moves, func(m diff.Change) bool { return m.From == c.Path }):
			of = append(of, c)
		}
	}
	return all, moves, of
}

func TestAsPlainly(t *testing.T) {
	dice := rand.New(rand.NewSource(1))
	many := 0
	for range 1000 {
		a, b := grown(dice), grown(dice)
		all, moves, of := plain(a, b)
		tells(t, each(a, b), all...)
		tells(t, diff.Moves(a, b), moves...)
		tells(t, diff.Of(a, b), of...)
		many += len(moves)
	}
	if many < 100 {
		t.Error(many)
	}
}

// P41.3

// lines is changes, and their lines.
func lines() map[diff.Change]string {
	return map[diff.Change]string{
		change(diff.Added, "a"): "+ a", change(diff.Removed, "a/b c"): "- a/b c", change(diff.Altered, "\u00e9"): "~ \u00e9", moved("b", "a"): "> b\ta", moved("a", "a/b"): "> a\ta/b", moved("a b", " "): "> a b\t ", change(diff.Turned, " "): "!  ",
		change(diff.Added, "+ a"): "+ + a", change(diff.Turned, "x > y"): "! x > y",
	}
}

func TestLine(t *testing.T) {
	for c, want := range lines() {
		if s := diff.Line(c); s != want {
			t.Errorf("%v: %q, not %q", c, s, want)
		}
	}
	wrong := []diff.Change{{}, {From: "a"}, moved("a", ""), moved("a", "a"), moved("", "a"), moved("", "")}
	for _, kind := range []int{math.MinInt, -1, 0, 6, 7, math.MaxInt} {
		wrong = append(wrong, change(kind, "a"), diff.Change{Kind: kind, Path: "a", From: "b"})
	}
	for _, kind := range []int{diff.Added, diff.Removed, diff.Altered, diff.Turned} {
		wrong = append(wrong, diff.Change{Kind: kind, Path: "a", From: "b"}, diff.Change{Kind: kind, Path: "a", From: "a"}, diff.Change{Kind: kind, Path: "a", From: "/"})
	}
	for _, path := range []string{"", "/", "/a", "a/", "a//b", "..", "a/..", "a\x00", "a:b", "a\tb", "a\nb", "\xff", ".swingle", ".swingle/a", strings.Repeat("x", 61)} {
		for kind := diff.Added; kind <= diff.Turned; kind++ {
			wrong = append(wrong, change(kind, path))
		}
		wrong = append(wrong, moved(path, "a"), moved("a", path), moved(path, path))
	}
	for _, c := range wrong {
		if s := diff.Line(c); s != "" {
			t.Errorf("%v: %q", c, s)
		}
	}
}

func TestRead(t *testing.T) {
	for want, s := range lines() {
		if c, ok := diff.Read(s); c != want || !ok {
			t.Errorf("%q: %v, %v, not %v", s, c, ok, want)
		}
	}
	for _, s := range []string{
		"", " ", "+", "+ ", "+a", " + a", "+  /", "+\ta", "+ a\t", "+ a\tb", "- a\tb", "~ a\ta", "! a\tb", "> a", "> a\t", "> a\ta", "> \ta", "> a\tb\t", "> a\tb\tc", ">  \t", "+ a\n", "a", "++ a", "+- a", "+-~>! a", " a", "  a", "? a", "0 a", "1 a", "+ /a", "+ a//b", "+ ..", "+ .swingle", "> b\t.swingle", "> b\t/a", "+ \xff",
		"\x00 a", "= a",
	} {
		if c, ok := diff.Read(s); c != (diff.Change{}) || ok {
			t.Errorf("%q: %v, %v", s, c, ok)
		}
	}
}

func TestReadOfAnything(t *testing.T) {
	dice := rand.New(rand.NewSource(2))
	fine := 0
	for range 50000 {
		s := ""
		for range dice.Intn(9) {
			s += []string{"+", "-", "~", ">", "!", " ", " ", "\t", "a", "b", "/", ".", "+ ", "> a"}[dice.Intn(14)]
		}
		c, ok := diff.Read(s)
		if ok {
			fine++
		}
		if ok && diff.Line(c) != s || ok && s == "" || !ok && c != (diff.Change{}) {
			t.Errorf("%q: %v, %v", s, c, ok)
		}
	}
	if fine < 1000 {
		t.Error(fine)
	}
}

func TestCount(t *testing.T) {
	var l []diff.Change
	for kind := range 6 {
		for i := range 2*kind + 1 {
			l = append(l, change(kind, strconv.Itoa(i)))
		}
	}
	if many := diff.Count(l); many != [6]int{1, 3, 5, 7, 9, 11} {
		t.Error(many)
	}
	for _, kind := range []int{-1, 6, 7, math.MinInt, math.MaxInt} {
		if many := diff.Count([]diff.Change{change(kind, "a"), change(2, "a")}); many != [6]int{2: 1} {
			t.Error(kind, many)
		}
	}
	if many := diff.Count(nil); many != [6]int{} {
		t.Error(many)
	}
	if many := diff.Count(diff.Of(before(t), behind(t))); many != [6]int{0, 2, 2, 2, 1, 2} {
		t.Error(many)
	}
}

// P41.4

func TestOfOneAndItself(t *testing.T) {
	dice := rand.New(rand.NewSource(3))
	for range 100 {
		a := grown(dice)
		tells(t, diff.Of(a, a))
		tells(t, diff.Of(a, a.Clone()))
		tells(t, each(a, a))
	}
}

func TestTheOtherWayRound(t *testing.T) {
	dice := rand.New(rand.NewSource(4))
	turned := [6]int{diff.Added: diff.Removed, diff.Removed: diff.Added, diff.Altered: diff.Altered, diff.Turned: diff.Turned}
	for range 300 {
		a, b := grown(dice), grown(dice)
		l := each(a, b)
		for i := range l {
			l[i].Kind = turned[l[i].Kind]
		}
		tells(t, each(b, a), l...)
	}
}

// Lines, in order, bear the whole difference.
func TestLinesOfAll(t *testing.T) {
	dice := rand.New(rand.NewSource(5))
	for range 200 {
		for _, c := range diff.Of(grown(dice), grown(dice)) {
			if got, ok := diff.Read(diff.Line(c)); got != c || !ok {
				t.Errorf("%v: %v, %v", c, got, ok)
			}
		}
	}
}

// P1

func TestAllCallsEnd(t *testing.T) {
	wild := strings.Repeat("/\x00", 50000)
	for _, kind := range []int{math.MinInt, 0, 1, 4, 5, math.MaxInt} {
		diff.Line(diff.Change{Kind: kind, Path: wild, From: wild})
	}
	for _, s := range []string{wild, "+ " + wild, "> " + wild + "\t" + wild, strings.Repeat("\t", 100000), strings.Repeat(" ", 100000)} {
		diff.Read(s)
	}
	many := tree.New()
	for i := range api.MaxNodes {
		many.Put("f"+strconv.Itoa(i), file("all the same"))
	}
	other := tree.New()
	for i := range api.MaxNodes {
		other.Put("g"+strconv.Itoa(i), file("all the same"))
	}
	if l := diff.Of(many, other); len(l) != api.MaxNodes || diff.Count(l) != [6]int{diff.Moved: api.MaxNodes} {
		t.Error(len(l))
	}
}

func TestTreesStay(t *testing.T) {
	a, b := before(t), behind(t)
	diff.Of(a, b)
	diff.Moves(a, b)
	each(a, b)
	if !tree.Whole(a, before(t)) || !tree.Whole(b, behind(t)) {
		t.Error("they changed")
	}
}
