package dirfs_test

import (
	"maps"
	"math"
	"math/rand"
	"slices"
	"strconv"
	"strings"
	"testing"

	"swingle/api"
	"swingle/dirfs"
	"swingle/name"
	"swingle/node"
	"swingle/tree"
)

const begin = 0x210000 // 1980-01-01 00:00:00

func file(data string) api.Node {
	return api.Node{Kind: api.File, Mode: 0o644, Time: begin, Data: data}
}

func dir(mode int) api.Node { return api.Node{Kind: api.Dir, Mode: mode} }

func item(path string, n api.Node) api.Item { return api.Item{Path: path, Node: n} }

// some is items of a tree with 9 bytes.
func some() []api.Item {
	return []api.Item{
		item("a", dir(0o755)), item("a/b", dir(0)), item("a/b/c", file("12")), item("a/b.txt", file("345")), item("a-b", file("")), item("ab", dir(0o700)), item("ab/c", file("6")), item("f", file("789")),
	}
}

// of is a Dir with items.
func of(t *testing.T, room int, l ...api.Item) *dirfs.Dir {
	t.Helper()
	d := dirfs.New(room)
	for _, x := range l {
		if why := d.Put(x.Path, x.Node); why != api.OK {
			t.Fatalf("%s: %d", x.Path, why)
		}
	}
	return d
}

// holds fails if a Dir has something else.
func holds(t *testing.T, d *dirfs.Dir, l ...api.Item) {
	t.Helper()
	if got := d.Tree().Items(); !slices.Equal(got, l) {
		t.Errorf("%v, not %v", got, l)
	}
	bytes := 0
	for _, x := range l {
		bytes += len(x.Node.Data)
		if n := d.Get(x.Path); n != x.Node {
			t.Errorf("%s: %v", x.Path, n)
		}
	}
	if d.Bytes() != bytes {
		t.Errorf("%d bytes, not %d", d.Bytes(), bytes)
	}
}

// step is one that changes a Dir.
type step func(d *dirfs.Dir) api.Errno

func put(path string, n api.Node) step {
	return func(d *dirfs.Dir) api.Errno { return d.Put(path, n) }
}

func remove(path string) step { return func(d *dirfs.Dir) api.Errno { return d.Remove(path) } }

func clearing(path string) step { return func(d *dirfs.Dir) api.Errno { return d.Clear(path) } }

func rename(from, to string) step {
	return func(d *dirfs.Dir) api.Errno { return d.Rename(from, to) }
}

func graft(path string, l ...api.Item) step {
	return func(d *dirfs.Dir) api.Errno { return d.Graft(path, l...) }
}

// refuses fails if a step on a Dir with some tells another error, or changes anything.
func refuses(t *testing.T, want api.Errno, do step) {
	t.Helper()
	refusesOf(t, of(t, -1, some()...), want, do)
}

func refusesOf(t *testing.T, d *dirfs.Dir, want api.Errno, do step) {
	t.Helper()
	ahead, ops, off := d.Tree(), d.Ops(), d.Off()
	if why := do(d); why != want {
		t.Errorf("%d, not %d", why, want)
	}
	if !tree.Whole(ahead, d.Tree()) || d.Ops() != ops || d.Off() != off {
		t.Errorf("it changed: %v, %d, %v", d.Tree().Items(), d.Ops(), d.Off())
	}
}

// comesTo fails if a step on a Dir with some isn't OK, or makes something else of it.
func comesTo(t *testing.T, do step, l ...api.Item) {
	t.Helper()
	d := of(t, -1, some()...)
	if why := do(d); why != api.OK || d.Ops() != len(some())+1 {
		t.Errorf("%d, %d", why, d.Ops())
	}
	holds(t, d, l...)
}

// without is some, but those at places.
func without(places ...int) []api.Item {
	var l []api.Item
	for i, x := range some() {
		if !slices.Contains(places, i) {
			l = append(l, x)
		}
	}
	return l
}

// wrongPaths is paths that aren't right.
func wrongPaths() []string {
	return []string{"", "/", "/a", "a/", "a//b", ".", "..", "a/..", "../a", "a/./b", "a\x00", "a:b", "\xff", ".swingle", ".swingle/a", strings.Repeat("x", 61), strings.Repeat("x/", 12) + "x"}
}

// P18.1

func TestNew(t *testing.T) {
	for _, room := range []int{math.MinInt, -1, 0, 1, math.MaxInt} {
		d := dirfs.New(room)
		holds(t, d)
		if d.Ops() != 0 || d.Off() {
			t.Error(d.Ops(), d.Off())
		}
	}
}

func TestPut(t *testing.T) {
	d := of(t, -1, some()...)
	holds(t, d, some()...)
	comesTo(t, put("f", dir(1)), append(without(7), item("f", dir(1)))...)
	comesTo(t, put("a", dir(1)), append([]api.Item{item("a", dir(1))}, without(0)...)...)
}

func TestPutTellsWhatTheTreeTells(t *testing.T) {
	for _, path := range append(wrongPaths(), "a", "f", "new", "a/new", "no/such", "f/x", "ab/c/d") {
		for _, n := range []api.Node{{}, file("x"), file(strings.Repeat("x", api.MaxData+1)), dir(0), dir(-1), {Kind: 3}, {Kind: api.File, Mode: 512, Time: begin}, {Kind: api.File}, {Mode: 1}} {
			x, _, _ := tree.Of(some()...)
			if why := x.Put(path, n); why != api.OK {
				refuses(t, why, put(path, n))
			} else {
				comesTo(t, put(path, n), x.Items()...)
			}
		}
	}
}

func TestMostNodes(t *testing.T) {
	d := dirfs.New(-1)
	for i := range api.MaxNodes {
		d.Put("f"+strconv.Itoa(i), file(""))
	}
	refusesOf(t, d, api.ErrLong, put("f", file("")))
	refusesOf(t, d, api.ErrLong, graft("f", item("f", file(""))))
	if d.Put("f0", file("x")) != api.OK || d.Graft("f1", item("f1", file("y"))) != api.OK || d.Rename("f2", "g") != api.OK {
		t.Error("there is no room for what was there")
	}
}

func TestRoom(t *testing.T) {
	d := of(t, 9, some()...)
	for _, do := range []step{put("g", file("x")), put("f", file("1234")), put("a-b", file("x")), graft("f", item("f", file("1234"))), graft("g", item("g", file("x"))), graft("ab/d", item("ab/d", file("x")))} {
		refusesOf(t, d, api.ErrFull, do)
	}
	// What can't be put at all is told ahead.
	refusesOf(t, d, api.ErrNone, put("no/such", file("x")))
	refusesOf(t, d, api.ErrKind, put("a", file("x")))
	refusesOf(t, d, api.ErrKind, graft("f/x", item("f/x", file("x"))))
	for _, do := range []step{put("f", file("abc")), put("g", file("")), put("f", file("")), put("g", file("abc")), remove("g"), put("f", file("xyz")), graft("f", item("f", file("1"))), put("h", file("23"))} {
		if why := do(d); why != api.OK {
			t.Error(why)
		}
	}
	refusesOf(t, d, api.ErrFull, put("h", file("234")))
	refusesOf(t, dirfs.New(0), api.ErrFull, put("g", file("x")))
	if d := dirfs.New(0); d.Put("g", file("")) != api.OK || d.Put("d", dir(0)) != api.OK {
		t.Error("what has no bytes needs room")
	}
	big := file(strings.Repeat("x", api.MaxData))
	for _, room := range []int{-1, math.MinInt, math.MaxInt, 2 * api.MaxData} {
		if d := dirfs.New(room); d.Put("a", big) != api.OK || d.Put("b", big) != api.OK || d.Bytes() != 2*api.MaxData {
			t.Error(room, d.Bytes())
		}
	}
}

func TestRemove(t *testing.T) {
	comesTo(t, remove("f"), without(7)...)
	comesTo(t, remove("a/b/c"), without(2)...)
	refuses(t, api.ErrKind, remove("a"))
	refuses(t, api.ErrKind, remove("a/b"))
	for _, path := range append(wrongPaths(), "no", "a/no", "f/no", "A") {
		refuses(t, api.ErrNone, remove(path))
	}
}

// P18.2

func TestClear(t *testing.T) {
	comesTo(t, clearing("a"), without(0, 1, 2, 3)...)
	comesTo(t, clearing("a/b"), without(1, 2)...)
	comesTo(t, clearing("a/b.txt"), without(3)...)
	comesTo(t, clearing("a-b"), without(4)...)
	comesTo(t, clearing("ab"), without(5, 6)...)
	for _, path := range append(wrongPaths(), "no", "a/no", "f/no", "A") {
		refuses(t, api.ErrNone, clearing(path))
	}
}

func TestRename(t *testing.T) {
	comesTo(t, rename("f", "g"), append(without(7), item("g", file("789")))...)
	comesTo(t, rename("f", "a/b/f"), slices.Insert(without(7), 3, item("a/b/f", file("789")))...)
	comesTo(t, rename("a/b", "d"), slices.Concat(without(1, 2, 7), []api.Item{item("d", dir(0)), item("d/c", file("12")), item("f", file("789"))})...)
	comesTo(t, rename("a", "ab/a"), slices.Concat(without(0, 1, 2, 3, 6, 7), []api.Item{
		item("ab/a", dir(0o755)), item("ab/a/b", dir(0)), item("ab/a/b/c", file("12")), item("ab/a/b.txt", file("345")), item("ab/c", file("6")), item("f", file("789")),
	})...)
	comesTo(t, rename("a/b", "a/bb"), slices.Concat(without(1, 2, 3, 4, 5, 6, 7), []api.Item{item("a/b.txt", file("345")), item("a/bb", dir(0)), item("a/bb/c", file("12"))}, some()[4:])...)
}

func TestRenameTellsWhy(t *testing.T) {
	for _, to := range wrongPaths() {
		for _, from := range []string{"a", "no", to, ""} {
			refuses(t, api.ErrName, rename(from, to))
		}
	}
	for _, from := range append(wrongPaths(), "no", "a/no", "f/no") {
		for _, to := range []string{"new", "f", "a", "no", "a/no", "no/such", "f/x", "a/no/x"} {
			refuses(t, api.ErrNone, rename(from, to))
		}
	}
	for _, c := range [][2]string{{"a", "a"}, {"f", "f"}, {"a", "a/b"}, {"a", "a/new"}, {"a", "a/b/c"}, {"a", "a/no/such"}, {"a", "a/b.txt/x"}, {"f", "f/x"}, {"a/b", "a/b/d"}} {
		refuses(t, api.ErrArg, rename(c[0], c[1]))
	}
	for _, c := range [][2]string{{"a", "f"}, {"f", "a"}, {"f", "a-b"}, {"a/b/c", "a"}, {"a/b", "a"}, {"a", "ab"}, {"ab", "a"}, {"f", "a/b"}} {
		refuses(t, api.ErrTwice, rename(c[0], c[1]))
	}
	for _, c := range [][2]string{{"a", "no/such"}, {"f", "a/no/such"}, {"a/b", "A/b"}} {
		refuses(t, api.ErrNone, rename(c[0], c[1]))
	}
	for _, c := range [][2]string{{"a", "f/x"}, {"f", "a-b/x"}, {"a/b/c", "a/b.txt/c"}, {"a", "ab/c/a"}} {
		refuses(t, api.ErrKind, rename(c[0], c[1]))
	}
	refuses(t, api.ErrNone, rename("f", "a-b/x/y")) // the parent of what would be below a file isn't there
}

func TestRenameOfWhatGetsTooLong(t *testing.T) {
	wide := strings.Repeat("w", 60)
	l := append(some(), item("x", dir(0)), item("x/"+wide, dir(0)), item("x/"+wide+"/"+wide, dir(0)), item("x/"+wide+"/"+wide+"/"+wide, file("")))
	fits, long := strings.Repeat("y", 17), strings.Repeat("y", 18) // with these 200 and 201 bytes
	refusesOf(t, of(t, -1, l...), api.ErrLong, rename("x", long))
	refusesOf(t, of(t, -1, l...), api.ErrLong, rename("x", wide))
	d := of(t, -1, l...)
	if why := d.Rename("x", fits); why != api.OK || d.Get("x").Kind != api.None || d.Get(fits+"/"+wide+"/"+wide+"/"+wide) != file("") || d.Tree().Len() != len(l) {
		t.Error(why)
	}
	// Or too deep.
	l = nil
	for n := range 11 {
		l = append(l, item("d"+strings.Repeat("/d", n), dir(0)))
	}
	l = append(l, item("e", dir(0)), item("e/e", dir(0)), item("e/e/e", dir(0)))
	refusesOf(t, of(t, -1, l...), api.ErrLong, rename("d", "e/e/e/d"))
	if why := of(t, -1, l...).Rename("d", "e/d"); why != api.OK {
		t.Error(why)
	}
}

func TestGraft(t *testing.T) {
	comesTo(t, graft("a"), without(0, 1, 2, 3)...)
	comesTo(t, graft("no"), some()...)
	comesTo(t, graft("a/b/c/x/y"), some()...)
	comesTo(t, graft("f", item("f", dir(0)), item("f/x", file("1"))), append(without(7), item("f", dir(0)), item("f/x", file("1")))...)
	comesTo(t, graft("a", item("a", file("now"))), append([]api.Item{item("a", file("now"))}, without(0, 1, 2, 3)...)...)
	comesTo(t, graft("a/b", item("a/b", dir(7)), item("a/b/x", dir(0)), item("a/b/x/y", file("1"))), slices.Concat(
		some()[:1], []api.Item{item("a/b", dir(7)), item("a/b/x", dir(0)), item("a/b/x/y", file("1"))}, some()[3:])...)
	// What is put twice is put in order.
	comesTo(t, graft("f", item("f", file("1")), item("f", file("2"))), append(without(7), item("f", file("2")))...)
	comesTo(t, graft("f", item("f", file("1")), item("f", dir(0)), item("f/x", file("2"))), append(without(7), item("f", dir(0)), item("f/x", file("2")))...)
	for _, path := range wrongPaths() {
		comesTo(t, graft(path), some()...)
	}
}

func TestGraftTellsWhy(t *testing.T) {
	for _, path := range append(wrongPaths(), "", "ab", "a", "a/bc", "a-b", "f", "b") {
		refuses(t, api.ErrArg, graft("a/b", item(path, dir(0))))
		refuses(t, api.ErrArg, graft("a/b", item("a/b", api.Node{}), item(path, dir(0)))) // ahead of all that is put
	}
	for _, path := range wrongPaths() {
		refuses(t, api.ErrName, graft(path, item(path, dir(0))))
	}
	refuses(t, api.ErrArg, graft("", item("a", dir(0))))
	refuses(t, api.ErrArg, graft("a/b", item("a/b", api.Node{})))
	refuses(t, api.ErrMode, graft("a/b", item("a/b", dir(0)), item("a/b/x", dir(-1)), item("a/b/no/x", dir(0))))
	refuses(t, api.ErrNone, graft("a/b", item("a/b/x", file(""))))
	refuses(t, api.ErrNone, graft("a/b", item("a/b/c", file("")), item("a/b", dir(0))))
	refuses(t, api.ErrNone, graft("no/such", item("no/such", dir(0))))
	refuses(t, api.ErrKind, graft("f/x", item("f/x", dir(0))))
	refuses(t, api.ErrKind, graft("a", item("a", dir(0)), item("a/x", dir(0)), item("a", file(""))))
}

// P18.3

func TestAnswersAreCopies(t *testing.T) {
	d := of(t, -1, some()...)
	x := d.Tree()
	x.Put("new", file("x"))
	x.Drop("f")
	holds(t, d, some()...)
	x = d.Tree()
	d.Put("new", file("x"))
	if !slices.Equal(x.Items(), some()) {
		t.Error(x.Items())
	}
	l := []api.Item{item("g", dir(0)), item("g/x", file("1"))}
	d = dirfs.New(-1)
	d.Graft("g", l...)
	l[1] = item("g/y", file("2"))
	holds(t, d, item("g", dir(0)), item("g/x", file("1")))
}

func TestGetOfNothing(t *testing.T) {
	for _, path := range append(wrongPaths(), "no", "a/no", "f/no") {
		if n := of(t, -1, some()...).Get(path); n != (api.Node{}) {
			t.Error(path, n)
		}
	}
}

// right and wrong are steps of all kinds on a Dir with some: those that tell OK, and others.
func right() []step {
	return []step{put("g", file("x")), remove("f"), clearing("a"), rename("f", "g"), graft("a", item("a", file("x"))), graft("no")}
}

func wrong() []step {
	return []step{put("", file("x")), remove("a"), clearing("no"), rename("f", "a"), graft("a", item("f", dir(0))), put("g", file("1234567890"))}
}

func TestFuse(t *testing.T) {
	for n := range 4 {
		for _, do := range right() {
			d := of(t, 12, some()...)
			d.Fuse(n)
			for i := range n {
				for _, other := range wrong() {
					if why := other(d); why == api.OK || why == api.ErrPower {
						t.Error(why)
					}
				}
				if why := d.Put("ab", dir(i)); why != api.OK {
					t.Error(why)
				}
			}
			for _, other := range wrong() {
				if why := other(d); why == api.OK || why == api.ErrPower || d.Off() {
					t.Error(why, d.Off())
				}
			}
			ahead := d.Tree()
			if why := do(d); why != api.ErrPower || !d.Off() || !tree.Whole(ahead, d.Tree()) || d.Ops() != len(some())+n {
				t.Error(why, d.Off(), d.Ops())
			}
			for _, other := range append(right(), wrong()...) {
				refusesOf(t, d, api.ErrPower, other)
			}
		}
	}
}

func TestRestart(t *testing.T) {
	d := of(t, -1, some()...)
	d.Fuse(0)
	d.Remove("f")
	d.Fuse(3)
	refusesOf(t, d, api.ErrPower, remove("f"))
	d.Fuse(-1)
	refusesOf(t, d, api.ErrPower, remove("f"))
	d.Restart()
	holds(t, d, some()...)
	if d.Off() {
		t.Error("it is off")
	}
	for i := range 10 {
		if why := d.Put("ab", dir(i)); why != api.OK || d.Ops() != len(some())+1+i {
			t.Error(why, d.Ops())
		}
	}
	// It takes a fuse away, too, that hasn't burnt.
	d.Fuse(0)
	d.Restart()
	if why := d.Remove("f"); why != api.OK || d.Off() {
		t.Error(why)
	}
}

func TestFuseIsTheLast(t *testing.T) {
	for _, n := range []int{-1, -2, math.MinInt} {
		d := dirfs.New(-1)
		d.Fuse(1)
		d.Fuse(n)
		for i := range 5 {
			if why := d.Put("a", dir(i)); why != api.OK {
				t.Error(n, why)
			}
		}
	}
	d := dirfs.New(-1)
	d.Fuse(0)
	d.Fuse(2)
	if d.Put("a", dir(0)) != api.OK || d.Put("b", dir(0)) != api.OK || d.Off() || d.Put("c", dir(0)) != api.ErrPower {
		t.Error("the first fuse burnt")
	}
	d = dirfs.New(-1)
	d.Fuse(math.MaxInt)
	if d.Put("a", dir(0)) != api.OK || d.Off() {
		t.Error("a long fuse burnt")
	}
}

func TestOfNil(t *testing.T) {
	var d *dirfs.Dir
	for _, do := range append(right(), wrong()...) {
		if why := do(d); why != api.ErrArg {
			t.Error(why)
		}
	}
	d.Fuse(0)
	d.Restart()
	if d.Get("a") != (api.Node{}) || d.Tree() == nil || d.Tree().Len() != 0 || d.Bytes() != 0 || d.Ops() != 0 || d.Off() {
		t.Error("nil has something")
	}
	if why := d.Tree().Put("a", dir(0)); why != api.OK {
		t.Error(why)
	}
}

// P18.4

func TestThereAndBack(t *testing.T) {
	for _, c := range [][2]string{{"a", "z"}, {"a", "ab/z"}, {"a/b", "b"}, {"f", "a/b/f"}, {"a-b", "-"}, {"ab", "a/b/ab"}} {
		d := of(t, -1, some()...)
		if d.Rename(c[0], c[1]) != api.OK || d.Rename(c[1], c[0]) != api.OK {
			t.Error(c)
		}
		holds(t, d, some()...)
	}
}

// model is a directory as a plain map.
type model map[string]api.Node

func (m model) under(path string) []string {
	var l []string
	for p := range m {
		if p == path || strings.HasPrefix(p, path+"/") {
			l = append(l, p)
		}
	}
	slices.Sort(l)
	return l
}

func (m model) put(path string, n api.Node) api.Errno {
	up := m[name.Parent(path)]
	switch {
	case !name.Right(path):
		return api.ErrName
	case n.Kind == api.None:
		return api.ErrArg
	case node.Right(n) != api.OK:
		return node.Right(n)
	case name.Parent(path) != "" && up.Kind == api.None:
		return api.ErrNone
	case name.Parent(path) != "" && up.Kind != api.Dir, n.Kind != api.Dir && len(m.under(path+"/")) > 0, n.Kind != api.Dir && len(m.under(path)) > 1:
		return api.ErrKind
	}
	m[path] = n
	return api.OK
}

func (m model) rename(from, to string) api.Errno {
	up := name.Parent(to)
	switch {
	case !name.Right(to):
		return api.ErrName
	case m[from].Kind == api.None:
		return api.ErrNone
	case from == to, strings.HasPrefix(to, from+"/"):
		return api.ErrArg
	case m[to].Kind != api.None:
		return api.ErrTwice
	case up != "" && m[up].Kind == api.None:
		return api.ErrNone
	case up != "" && m[up].Kind == api.File:
		return api.ErrKind
	}
	for _, p := range m.under(from) {
		if !name.Right(to + p[len(from):]) {
			return api.ErrLong
		}
	}
	for _, p := range m.under(from) {
		m[to+p[len(from):]] = m[p]
		delete(m, p)
	}
	return api.OK
}

func (m model) clear(path string) api.Errno {
	l := m.under(path)
	if m[path].Kind == api.None {
		return api.ErrNone
	}
	for _, p := range l {
		delete(m, p)
	}
	return api.OK
}

func (m model) graft(path string, l []api.Item) api.Errno {
	for _, x := range l {
		if x.Path != path && !(strings.HasPrefix(x.Path, path+"/") && name.Right(x.Path)) {
			return api.ErrArg
		}
	}
	for _, p := range m.under(path) {
		delete(m, p)
	}
	for _, x := range l {
		if why := m.put(x.Path, x.Node); why != api.OK {
			return why
		}
	}
	return api.OK
}

func (m model) bytes() int {
	n := 0
	for _, x := range m {
		n += len(x.Data)
	}
	return n
}

func TestAsTheModel(t *testing.T) {
	dice := rand.New(rand.NewSource(1))
	path := func() string {
		p := []string{"a", "b", "c", "a-b", "a.b", strings.Repeat("long", 15)}[dice.Intn(6)]
		for dice.Intn(3) > 0 {
			p += "/" + []string{"a", "b", strings.Repeat("long", 15)}[dice.Intn(3)]
		}
		return p
	}
	some := func() api.Node {
		if dice.Intn(3) > 0 {
			return dir(dice.Intn(512))
		}
		return file(strings.Repeat("x", dice.Intn(9)))
	}
	seen := map[api.Errno]int{}
	d, m, ops, fuse := dirfs.New(12), model{}, 0, -1
	for i := range 20000 {
		if i%200 == 0 {
			d, m, ops, fuse = dirfs.New(12), model{}, 0, -1
			for n := range 4 {
				deep := "b" + strings.Repeat("/"+strings.Repeat("long", 15), n)
				d.Put(deep, dir(n))
				m.put(deep, dir(n))
				ops++
			}
		}
		p, q, n := path(), path(), some()
		next := maps.Clone(m)
		var do step
		var want api.Errno
		switch dice.Intn(10) {
		case 0:
			do, want = clearing(p), next.clear(p)
		case 1, 2:
			do, want = rename(p, q), next.rename(p, q)
		case 3, 4:
			l := []api.Item{item(p, n), item(p+"/x", some()), item([]string{p + "/y", q}[dice.Intn(2)], some())}[:dice.Intn(4)]
			do, want = graft(p, l...), next.graft(p, l)
		case 5:
			fuse = dice.Intn(12) - 4
			d.Fuse(fuse)
			continue
		default:
			do, want = put(p, n), next.put(p, n)
		}
		if want == api.OK && next.bytes() > 12 {
			want = api.ErrFull
		}
		if want == api.OK && fuse == 0 {
			want = api.ErrPower
		}
		if why := do(d); why != want {
			t.Fatalf("step %d: %d, not %d", i, why, want)
		}
		seen[want]++
		if d.Off() != (want == api.ErrPower) {
			t.Fatalf("step %d: %v", i, d.Off())
		}
		if want == api.ErrPower {
			d.Restart()
			fuse = -1
		}
		if want == api.OK {
			m = next
			ops++
			fuse = max(fuse-1, -1)
		}
		var l []api.Item
		for _, p := range slices.SortedFunc(maps.Keys(m), name.Order) {
			l = append(l, item(p, m[p]))
		}
		if !slices.Equal(d.Tree().Items(), l) || d.Ops() != ops || d.Bytes() != m.bytes() || !tree.Right(l...) {
			t.Fatalf("step %d: %v, not %v", i, d.Tree().Items(), l)
		}
	}
	for _, why := range []api.Errno{api.OK, api.ErrArg, api.ErrNone, api.ErrKind, api.ErrTwice, api.ErrFull, api.ErrPower, api.ErrLong, api.ErrName} {
		if seen[why] == 0 {
			t.Errorf("the error %d never came", why)
		}
	}
}

// P1

func TestAllCallsEnd(t *testing.T) {
	texts := append(wrongPaths(), "a", "a/b", "f", "no", strings.Repeat("a/", 10000), strings.Repeat("x", 100000))
	nodes := []api.Node{{}, file("x"), dir(0), {Kind: math.MinInt, Mode: math.MaxInt, Time: math.MaxUint32, Data: "x"}}
	for _, d := range []*dirfs.Dir{nil, dirfs.New(-1), dirfs.New(0), of(t, 20, some()...)} {
		for _, p := range texts {
			for _, q := range texts {
				for _, n := range nodes {
					d.Put(p, n)
					d.Graft(p, item(q, n))
					d.Graft(p, item(p, n), item(q, n))
				}
				d.Rename(p, q)
				d.Clear(p)
			}
			d.Get(p)
			d.Remove(p)
			d.Graft(p)
		}
		d.Tree()
	}
}
