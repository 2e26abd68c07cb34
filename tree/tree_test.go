package tree_test

import (
	"maps"
	"math"
	"math/rand"
	"slices"
	"strconv"
	"strings"
	"testing"

	"swingle/api"
	"swingle/name"
	"swingle/node"
	"swingle/tree"
)

const (
	begin = 0x210000 // 1980-01-01 00:00:00
	later = 46<<25 | 11<<21 | 20<<16
)

func file(data string) api.Node {
	return api.Node{Kind: api.File, Mode: 0o644, Time: begin, Data: data}
}

func dir(mode int) api.Node { return api.Node{Kind: api.Dir, Mode: mode} }

func item(path string, n api.Node) api.Item { return api.Item{Path: path, Node: n} }

// of is a tree of items that must be those of one.
func of(t *testing.T, l ...api.Item) *tree.Tree {
	t.Helper()
	x, _, why := tree.Of(l...)
	if why != api.OK {
		t.Fatalf("%v: %d", l, why)
	}
	return x
}

// some is items of a tree, by the order of paths: by bytes a-b would stand ahead of a/b.
func some() []api.Item {
	return []api.Item{
		item("a", dir(0o755)), item("a/b", dir(0)), item("a/b/c", file("")), item("a/b.txt", file("123")), item("a/x", dir(0o777)),
		item("a-b", file("45")), item("ab", dir(0o700)), item("ab/c", file("6")), item("b", file("\x00\xff")),
	}
}

// wrongPaths is paths that name tells aren't right.
func wrongPaths() []string {
	return []string{"", "/", "/a", "a/", "a//b", ".", "..", "a/..", "../a", "a/./b", "a\x00", "a:b", "a\\b", "\xff", ".swingle", ".swingle/a",
		strings.Repeat("x", 61), strings.Repeat("x/", 12) + "x", strings.Repeat(strings.Repeat("x", 40)+"/", 5) + "x"}
}

// wrongNodes is nodes that node tells aren't right, but those of None.
func wrongNodes() []api.Node {
	return []api.Node{
		{Kind: 3}, {Kind: -1}, {Kind: math.MaxInt}, {Kind: api.Dir, Data: "x"}, {Kind: api.Dir, Time: begin}, dir(-1), dir(512),
		{Kind: api.File, Mode: 512, Time: begin}, {Kind: api.File}, {Kind: api.File, Time: begin + 30}, file(strings.Repeat("x", api.MaxData+1)),
	}
}

// holds fails if a tree's items are others.
func holds(t *testing.T, x *tree.Tree, want []api.Item) {
	t.Helper()
	if got := x.Items(); !slices.Equal(got, want) {
		t.Errorf("%v, not %v", got, want)
	}
}

// P16.1

func TestPut(t *testing.T) {
	x := tree.New()
	for _, i := range []int{0, 5, 8, 6, 7, 4, 1, 3, 2} {
		if why := x.Put(some()[i].Path, some()[i].Node); why != api.OK {
			t.Errorf("%s: %d", some()[i].Path, why)
		}
	}
	holds(t, x, some())
	for _, i := range some() {
		if n := x.Get(i.Path); n != i.Node {
			t.Errorf("%s: %v", i.Path, n)
		}
	}
}

func TestPutInPlace(t *testing.T) {
	x := of(t, some()...)
	for _, i := range []api.Item{
		item("a", dir(0o111)),           // with something under it
		item("a/x", file("a file now")), // with nothing
		item("b", dir(0o755)),
		item("a/b/c", file("other bytes")),
	} {
		if why := x.Put(i.Path, i.Node); why != api.OK || x.Get(i.Path) != i.Node || x.Len() != len(some()) {
			t.Errorf("%s: %d, %v", i.Path, why, x.Get(i.Path))
		}
	}
}

func TestPutTellsWhy(t *testing.T) {
	x := of(t, some()...)
	wrong := func(want api.Errno, path string, n api.Node) {
		t.Helper()
		if why := x.Put(path, n); why != want {
			t.Errorf("%q, %v: %d, not %d", path, n.Kind, why, want)
		}
	}
	for _, path := range wrongPaths() {
		wrong(api.ErrName, path, file("x"))
		wrong(api.ErrName, path, api.Node{})
		wrong(api.ErrName, path, dir(-1))
	}
	for _, path := range []string{"a", "new", "no/such", "b/c"} {
		wrong(api.ErrArg, path, api.Node{})
		wrong(api.ErrArg, path, api.Node{Mode: -1, Time: 1, Data: "x"})
		for _, n := range wrongNodes() {
			wrong(node.Right(n), path, n)
		}
	}
	for _, n := range []api.Node{file("x"), dir(0)} {
		wrong(api.ErrNone, "no/such", n)
		wrong(api.ErrNone, "a/no/such", n)
		wrong(api.ErrNone, "b/c/d", n)
		wrong(api.ErrKind, "b/c", n)
		wrong(api.ErrKind, "a/b/c/d", n)
		wrong(api.ErrKind, "a-b/c", n)
	}
	wrong(api.ErrKind, "a", file(""))
	wrong(api.ErrKind, "a/b", file("x"))
	wrong(api.ErrKind, "ab", file("x"))
	holds(t, x, some())
}

// full is as many items as a tree has at most: a directory d, and files in it.
func full() []api.Item {
	l := []api.Item{item("d", dir(0))}
	for i := range api.MaxNodes - 1 {
		l = append(l, item("d/"+strconv.Itoa(1000+i), file("")))
	}
	return l
}

func TestPutIntoAFullTree(t *testing.T) {
	x := of(t, full()...)
	for _, c := range []struct {
		path string
		n    api.Node
		want api.Errno
	}{
		{"e", file(""), api.ErrLong}, {"e", dir(0), api.ErrLong}, {"d/x", file(""), api.ErrLong},
		{"d/1000", file("x"), api.OK}, {"d/1001", dir(0), api.OK}, {"d", dir(0o777), api.OK},
		{"d", file(""), api.ErrKind}, {"e/f", file(""), api.ErrNone}, {"d/1000/x", file(""), api.ErrKind},
		{"/", file(""), api.ErrName}, {"e", api.Node{}, api.ErrArg}, {"e", dir(-1), api.ErrMode}, {"d/1001/x", file(""), api.ErrLong},
	} {
		if why := x.Put(c.path, c.n); why != c.want || x.Len() != api.MaxNodes {
			t.Errorf("%s, %v: %d, not %d; %d nodes", c.path, c.n, why, c.want, x.Len())
		}
	}
	if why := x.Drop("d/1490"); why != api.OK {
		t.Error(why)
	}
	if why := x.Put("e", file("")); why != api.OK {
		t.Error(why)
	}
	if why := x.Put("f", file("")); why != api.ErrLong {
		t.Error(why)
	}
}

func TestDrop(t *testing.T) {
	x := of(t, some()...)
	for _, path := range append(wrongPaths(), "no", "a/no", "b/c", "a/", "a/b/c/d") {
		if why := x.Drop(path); why != api.ErrNone {
			t.Errorf("%q: %d", path, why)
		}
	}
	for _, path := range []string{"a", "a/b", "ab"} {
		if why := x.Drop(path); why != api.ErrKind {
			t.Errorf("%q: %d", path, why)
		}
	}
	holds(t, x, some())
	for _, path := range []string{"a/b/c", "a/b", "b", "a/x", "a/b.txt", "a", "ab/c", "ab", "a-b"} {
		if why := x.Drop(path); why != api.OK || x.Get(path) != (api.Node{}) {
			t.Errorf("%q: %d", path, why)
		}
		if why := x.Drop(path); why != api.ErrNone {
			t.Errorf("%q once more: %d", path, why)
		}
	}
	holds(t, x, nil)
}

func TestGetOfNone(t *testing.T) {
	x := of(t, some()...)
	for _, path := range append(wrongPaths(), "no", "a/no", "b/c") {
		if n := x.Get(path); n != (api.Node{}) {
			t.Errorf("%q: %v", path, n)
		}
	}
}

func TestOfNil(t *testing.T) {
	var x *tree.Tree
	if why := x.Put("a", file("")); why != api.ErrArg {
		t.Error(why)
	}
	if why := x.Put("/", api.Node{}); why != api.ErrArg {
		t.Error(why)
	}
	if why := x.Drop("a"); why != api.ErrArg {
		t.Error(why)
	}
	if x.Get("a") != (api.Node{}) || len(x.Items()) != 0 || len(x.Under("a")) != 0 || x.Len() != 0 || x.Bytes() != 0 || x.Clone() != nil {
		t.Error("it has something")
	}
	for path := range x.All() {
		t.Error(path)
	}
	for _, same := range []func(a, b *tree.Tree) bool{tree.Same, tree.Whole} {
		if !same(x, x) || !same(x, tree.New()) || !same(tree.New(), x) || same(x, of(t, some()...)) || same(of(t, some()...), x) {
			t.Error("it isn't as one without nodes")
		}
	}
}

// P16.2

func TestAll(t *testing.T) {
	x := of(t, some()...)
	for end := range len(some()) + 2 {
		var l []api.Item
		for path, n := range x.All() {
			l = append(l, item(path, n))
			if len(l) >= end {
				break
			}
		}
		if want := some()[:min(max(end, 1), len(some()))]; !slices.Equal(l, want) {
			t.Errorf("up to %d: %v", end, l)
		}
	}
	for path := range tree.New().All() {
		t.Error(path)
	}
}

func TestAllWhileItIsChanged(t *testing.T) {
	x := of(t, some()...)
	var l []api.Item
	for path, n := range x.All() {
		l = append(l, item(path, n))
		x.Drop("b")
		x.Drop("a/b/c")
		x.Put("z"+strconv.Itoa(len(l)), file(""))
	}
	if !slices.Equal(l, some()) {
		t.Errorf("%v", l)
	}
}

func TestUnder(t *testing.T) {
	x := of(t, some()...)
	for path, want := range map[string][]api.Item{
		"a": some()[:5], "a/b": some()[1:3], "a/b/c": some()[2:3], "a/b.txt": some()[3:4], "a-b": some()[5:6], "ab": some()[6:8], "b": some()[8:],
		"no": nil, "a/no": nil, "c": nil, "a/": nil, "": nil, "/": nil, ".": nil, "..": nil, "A": nil, "b/c": nil, "\xff": nil, ".swingle": nil,
	} {
		if l := x.Under(path); !slices.Equal(l, want) {
			t.Errorf("%q: %v, not %v", path, l, want)
		}
	}
	if l := tree.New().Under("a"); len(l) != 0 {
		t.Error(l)
	}
}

func TestLenAndBytes(t *testing.T) {
	x := tree.New()
	if x.Len() != 0 || x.Bytes() != 0 {
		t.Error("without nodes")
	}
	x = of(t, some()...)
	if x.Len() != 9 || x.Bytes() != 8 {
		t.Errorf("%d nodes, %d bytes", x.Len(), x.Bytes())
	}
	x.Put("a-b", file("1234567890"))
	x.Drop("b")
	if x.Len() != 8 || x.Bytes() != 14 {
		t.Errorf("%d nodes, %d bytes", x.Len(), x.Bytes())
	}
}

func TestClone(t *testing.T) {
	x := of(t, some()...)
	y := x.Clone()
	holds(t, y, some())
	x.Put("new", file(""))
	x.Drop("b")
	holds(t, y, some())
	was := x.Items()
	y.Put("other", dir(0))
	y.Put("a", dir(0o123))
	y.Drop("a-b")
	holds(t, x, was)
	if tree.New().Clone().Len() != 0 {
		t.Error("without nodes")
	}
}

func TestOf(t *testing.T) {
	x, many, why := tree.Of()
	if x == nil || many != 0 || why != api.OK || x.Len() != 0 {
		t.Error("of none", many, why)
	}
	x, many, why = tree.Of(some()...)
	if many != 9 || why != api.OK {
		t.Error(many, why)
	}
	holds(t, x, some())
	// What is put twice is there once, as it was put last.
	x, many, why = tree.Of(item("b", file("1")), item("a", dir(0)), item("b", file("2")))
	if many != 2 || why != api.OK {
		t.Error(many, why)
	}
	holds(t, x, []api.Item{item("a", dir(0)), item("b", file("2"))})
	if _, many, why := tree.Of(full()...); many != api.MaxNodes || why != api.OK {
		t.Error(many, why)
	}
}

func TestOfTellsThePlace(t *testing.T) {
	for _, c := range []struct {
		l    []api.Item
		at   int
		want api.Errno
	}{
		{[]api.Item{{}}, 0, api.ErrName},
		{[]api.Item{item("a", api.Node{})}, 0, api.ErrArg},
		{append(some(), item("/", dir(0)), item("a", api.Node{})), 9, api.ErrName},
		{[]api.Item{item("a/b", file("")), item("a", dir(0))}, 0, api.ErrNone},
		{[]api.Item{item("a", file("")), item("a/b", file("")), item("", file(""))}, 1, api.ErrKind},
		{append(some(), item("a", file(""))), 9, api.ErrKind},
		{[]api.Item{item("a", dir(0)), item("b", dir(512))}, 1, api.ErrMode},
		{append(full(), item("e", dir(0))), api.MaxNodes, api.ErrLong},
	} {
		if x, at, why := tree.Of(c.l...); x != nil || at != c.at || why != c.want {
			t.Errorf("%v, %d, %d, not %d, %d", x, at, why, c.at, c.want)
		}
	}
}

func TestItemsAreNew(t *testing.T) {
	l := some()
	x := of(t, l...)
	l[0] = item("other", file("other"))
	for _, all := range []func() []api.Item{x.Items, func() []api.Item { return x.Under("a") }} {
		all()[0] = item("other", file("other"))
		if all()[0] != some()[0] {
			t.Error("what was answered ahead changed it")
		}
	}
	holds(t, x, some())
}

// P16.3

func TestSameAndWhole(t *testing.T) {
	x, y := of(t, some()...), of(t, some()...)
	if !tree.Same(x, y) || !tree.Whole(x, y) || !tree.Same(x, x) || !tree.Whole(tree.New(), tree.New()) || !tree.Same(tree.New(), tree.New()) {
		t.Error("of one and the same items")
	}
	for i, c := range []func(x *tree.Tree) api.Errno{
		func(x *tree.Tree) api.Errno { return x.Drop("b") },
		func(x *tree.Tree) api.Errno { return x.Drop("a/x") },
		func(x *tree.Tree) api.Errno { return x.Put("c", file("")) },
		func(x *tree.Tree) api.Errno { return x.Put("b", file("\x00\xfe")) },
		func(x *tree.Tree) api.Errno { return x.Put("b", file("\x00")) },
		func(x *tree.Tree) api.Errno { return x.Put("b", dir(0o644)) },
		func(x *tree.Tree) api.Errno { return x.Put("a", dir(0o754)) },
		func(x *tree.Tree) api.Errno {
			return x.Put("b", api.Node{Kind: api.File, Mode: 0o644, Time: later, Data: "\x00\xff"})
		},
		func(x *tree.Tree) api.Errno { x.Drop("b"); return x.Put("c", file("\x00\xff")) },
	} {
		other := x.Clone()
		if why := c(other); why != api.OK {
			t.Errorf("%d: %d", i, why)
		}
		if tree.Same(x, other) || tree.Same(other, x) || tree.Whole(x, other) || tree.Whole(other, x) {
			t.Errorf("%d: the same", i)
		}
	}
}

func TestSameOfOnePrint(t *testing.T) {
	// What differs is the polynomial of the sum itself.
	x, y := of(t, item("a", file("\x00\x00\x00\x00\x00"))), of(t, item("a", file("\x41\x06\x71\xdb\x01")))
	if !tree.Same(x, y) || tree.Whole(x, y) || !tree.Whole(x, x.Clone()) {
		t.Error("other bytes with one print")
	}
}

func TestRight(t *testing.T) {
	for _, l := range [][]api.Item{nil, {}, some(), some()[:1], some()[5:], full()} {
		if !tree.Right(l...) {
			t.Errorf("%d items aren't right", len(l))
		}
	}
	for _, l := range [][]api.Item{
		{{}},
		{item("a", api.Node{})},
		{item("a/b", file(""))},
		{item("a", file("")), item("a/b", file(""))},
		{item("b", file("")), item("a", file(""))},                        // not by their order
		{item("a", dir(0)), item("a-b", file("")), item("a/b", file(""))}, // by bytes alone
		{item("a", file("")), item("a", file(""))},                        // twice
		{item("a", dir(0)), item("b", file("")), item("a", dir(0))},       // twice
		{item("a", dir(0)), item("a/b", dir(0)), item("a", dir(1))},       // changed
		{item("a", dir(0o1000))},
		append(full(), item("e", dir(0))),
	} {
		if tree.Right(l...) {
			t.Errorf("%d items are right: %v", len(l), l[max(len(l)-2, 0):])
		}
	}
}

// P16.4

// model is a tree told by a map.
type model map[string]api.Node

func (m model) under(path string) []string {
	var l []string
	for p := range m {
		if strings.HasPrefix(p, path+"/") {
			l = append(l, p)
		}
	}
	return l
}

func (m model) put(path string, n api.Node) api.Errno {
	at := strings.LastIndex(path, "/")
	_, had := m[path]
	switch {
	case at >= 0 && m[path[:at]].Kind == api.None:
		return api.ErrNone
	case at >= 0 && m[path[:at]].Kind == api.File, n.Kind == api.File && len(m.under(path)) > 0:
		return api.ErrKind
	case !had && len(m) == 500:
		return api.ErrLong
	}
	m[path] = n
	return api.OK
}

func (m model) drop(path string) api.Errno {
	if _, had := m[path]; !had {
		return api.ErrNone
	}
	if len(m.under(path)) > 0 {
		return api.ErrKind
	}
	delete(m, path)
	return api.OK
}

func (m model) items() []api.Item {
	var l []api.Item
	for _, path := range slices.SortedFunc(maps.Keys(m), name.Order) {
		l = append(l, item(path, m[path]))
	}
	return l
}

func TestWhateverIsPutOrDropped(t *testing.T) {
	r := rand.New(rand.NewSource(16))
	x, m := tree.New(), model{}
	for i := range 6000 {
		var parts []string
		for range 1 + r.Intn(3) {
			parts = append(parts, []string{"a", "b", "a-", "ab", "a.c"}[r.Intn(5)])
		}
		path := strings.Join(parts, "/")
		var got, want api.Errno
		switch r.Intn(5) {
		case 0, 1:
			got, want = x.Drop(path), m.drop(path)
		case 2:
			n := file(strconv.Itoa(r.Intn(100)))
			got, want = x.Put(path, n), m.put(path, n)
		default:
			n := dir(r.Intn(512))
			got, want = x.Put(path, n), m.put(path, n)
		}
		if got != want || x.Len() != len(m) {
			t.Fatalf("step %d, %s: %d, not %d; %d nodes, not %d", i, path, got, want, x.Len(), len(m))
		}
		if i%20 == 0 {
			holds(t, x, m.items())
			if !tree.Right(x.Items()...) || !tree.Whole(of(t, x.Items()...), x) || !tree.Same(of(t, x.Items()...), x) {
				t.Fatalf("step %d: its items aren't right", i)
			}
			many := len(m.under(path))
			if _, had := m[path]; had {
				many++
			}
			if len(x.Under(path)) != many {
				t.Fatalf("step %d, %s: %v", i, path, x.Under(path))
			}
		}
	}
}

// P1

func TestAllCallsEnd(t *testing.T) {
	var none *tree.Tree
	paths := append(wrongPaths(), "a", "a/b", "b/c", strings.Repeat("a/", 1000), strings.Repeat("a", 100000), "\xff\xfe/\x00")
	nodes := append(wrongNodes(), api.Node{}, file("x"), dir(0), api.Node{Kind: math.MinInt, Mode: math.MinInt, Time: math.MaxUint32, Data: "\xff"})
	for _, x := range []*tree.Tree{none, tree.New(), of(t, some()...)} {
		for _, path := range paths {
			for _, n := range nodes {
				x.Put(path, n)
				x.Drop(path)
				x.Get(path)
				x.Under(path)
				tree.Of(item(path, n), item("a", n))
				tree.Right(item(path, n), item("a", n))
			}
		}
		x.Items()
		x.Clone()
		tree.Same(x, none)
		tree.Whole(none, x)
	}
}
