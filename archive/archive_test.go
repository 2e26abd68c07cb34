package archive_test

import (
	"hash/crc32"
	"math"
	"math/rand"
	"slices"
	"strconv"
	"strings"
	"testing"

	"swingle/api"
	"swingle/archive"
	"swingle/name"
	"swingle/node"
	"swingle/tree"
)

const (
	begin = 0x210000 // 1980-01-01 00:00:00
	later = 46<<25 | 11<<21 | 20<<16 | 17<<11 | 45<<5 | 29
)

func file(data string) api.Node {
	return api.Node{Kind: api.File, Mode: 0o644, Time: begin, Data: data}
}

func dir(mode int) api.Node { return api.Node{Kind: api.Dir, Mode: mode} }

// filePrint is a print of a file.
func filePrint(mode int, time uint32, size int, sum uint32) api.Print {
	return api.Print{Kind: api.File, Mode: mode, Time: time, Size: size, Sum: sum}
}

func dirPrint(mode int) api.Print { return api.Print{Kind: api.Dir, Mode: mode} }

func mark(path string, p api.Print) api.Mark { return api.Mark{Path: path, Print: p} }

// base is one that is Right. By bytes a-b would stand ahead of a/b.
func base() api.Base {
	return api.Base{
		Agreed: []api.Mark{mark("a", dirPrint(0o755)), mark("a/b", filePrint(0o644, later, 3, 0x352441c2)), mark("a-b", filePrint(0, begin, 0, 0)), mark("\u00e9 x", filePrint(0o777, begin, api.MaxData, math.MaxUint32))},
		Held:   []api.Mark{mark("a/a", dirPrint(0)), mark("a/b/c", filePrint(0o600, begin, 1, 7)), mark("z", dirPrint(0o111))},
	}
}

const baseText = "swingle 1\n" +
	"=a\tdir rwxr-xr-x\n" +
	"=a/b\tfile rw-r--r-- 2026-11-20 17:45:58 3 352441c2\n" +
	"=a-b\tfile --------- 1980-01-01 00:00:00 0 00000000\n" +
	"=\u00e9 x\tfile rwxrwxrwx 1980-01-01 00:00:00 65000 ffffffff\n" +
	"!a/a\tdir ---------\n" +
	"!a/b/c\tfile rw------- 1980-01-01 00:00:00 1 00000007\n" +
	"!z\tdir --x--x--x\n"

// rights is Bases that are Right.
func rights() []api.Base {
	return []api.Base{
		{}, base(), {Agreed: base().Agreed}, {Held: base().Held}, {Agreed: base().Held, Held: base().Agreed}, {Agreed: []api.Mark{mark("b", dirPrint(0))}, Held: []api.Mark{mark("a", dirPrint(0))}},
		{Agreed: []api.Mark{}, Held: []api.Mark{mark("no/parent/here", dirPrint(0))}},
	}
}

// wrongLists is marks that may be neither Agreed nor Held.
func wrongLists() [][]api.Mark {
	fine := dirPrint(0)
	l := [][]api.Mark{
		{mark("b", fine), mark("a", fine)}, {mark("a", fine), mark("a", fine)}, {mark("a", fine), mark("a", dirPrint(1))}, {mark("a-b", fine), mark("a/b", fine)}, {mark("a", fine), mark("b", fine), mark("b", fine)},
		{mark("a", fine), mark("c", fine), mark("b", fine)}, {mark("b", fine), mark("a", fine), mark("c", fine)}, {mark("a/b", fine), mark("a", fine)},
	}
	for _, p := range []api.Print{{}, {Kind: 3}, {Kind: -1}, {Mode: 1}, dirPrint(-1), dirPrint(512), {Kind: api.Dir, Size: 1}, filePrint(512, begin, 0, 0), filePrint(0, 0, 0, 0), filePrint(0, begin, -1, 0), filePrint(0, begin, api.MaxData+1, 0), filePrint(0, begin, 0, 1)} {
		l = append(l, []api.Mark{mark("x", p)}, []api.Mark{mark("w", fine), mark("x", p)}, []api.Mark{mark("x", p), mark("y", fine)})
	}
	for _, path := range []string{"", "/", "/a", "a/", "a//b", "..", "a/..", "a\x00", "a:b", "a\tb", "a\nb", "\xff", ".swingle", ".swingle/a", strings.Repeat("x", 61), strings.Repeat("x/", 12) + "x"} {
		l = append(l, []api.Mark{mark(path, fine)}, []api.Mark{mark(path, fine), mark("x/y", fine)})
	}
	return l
}

// wrongs is Bases that aren't Right.
func wrongs() []api.Base {
	var l []api.Base
	for _, x := range wrongLists() {
		l = append(l, api.Base{Agreed: x}, api.Base{Held: x}, api.Base{Agreed: x, Held: []api.Mark{mark("0", dirPrint(0))}}, api.Base{Agreed: []api.Mark{mark("zz", dirPrint(0))}, Held: x})
	}
	for _, m := range base().Agreed {
		for _, p := range []api.Print{m.Print, dirPrint(0o321)} {
			l = append(l, api.Base{Agreed: base().Agreed, Held: []api.Mark{mark(m.Path, p)}}, api.Base{Agreed: []api.Mark{mark(m.Path, p)}, Held: base().Agreed})
		}
	}
	return l
}

// same tells if two Bases have the same marks.
func same(a, b api.Base) bool {
	return slices.Equal(a.Agreed, b.Agreed) && slices.Equal(a.Held, b.Held)
}

// P26.1

func TestRight(t *testing.T) {
	for _, b := range rights() {
		if !archive.Right(b) {
			t.Errorf("%v: false", b)
		}
	}
	for _, b := range wrongs() {
		if archive.Right(b) {
			t.Errorf("%v: true", b)
		}
	}
}

func TestWrite(t *testing.T) {
	if s, why := archive.Write(base()); s != baseText || why != api.OK {
		t.Errorf("%d: %s", why, s)
	}
	if s, why := archive.Write(api.Base{}); s != "swingle 1\n" || why != api.OK {
		t.Errorf("%d: %s", why, s)
	}
	for _, b := range wrongs() {
		if s, why := archive.Write(b); s != "" || why != api.ErrArg {
			t.Errorf("%v: %d: %s", b, why, s)
		}
	}
}

// long is a Base whose text has so many bytes.
func long(bytes int) api.Base {
	var b api.Base
	// "=", a path, a byte 9, "dir ---------", and a byte 10: 16 bytes beside the path.
	for left := bytes - len("swingle 1\n"); left > 0; {
		wide := 84
		if left < 200 {
			wide = left - 16
		}
		path := []byte(strconv.Itoa(1000+len(b.Agreed)) + strings.Repeat("x", wide-4))
		for at := 4; at < wide-1; at += 50 {
			path[at] = '/'
		}
		b.Agreed = append(b.Agreed, mark(string(path), dirPrint(0)))
		left -= 16 + wide
	}
	return b
}

func TestLongestText(t *testing.T) {
	for _, n := range []int{api.MaxData - 1, api.MaxData} {
		b := long(n)
		s, why := archive.Write(b)
		if len(s) != n || why != api.OK {
			t.Errorf("%d bytes, %d", len(s), why)
		}
		if got, ok := archive.Read(s); !ok || !same(got, b) {
			t.Error("it is not read")
		}
	}
	for _, n := range []int{api.MaxData + 1, api.MaxData + 100, 2 * api.MaxData} {
		b := long(n)
		if s, why := archive.Write(b); s != "" || why != api.ErrLong || !archive.Right(b) {
			t.Errorf("%d bytes, %d", len(s), why)
		}
		text := "swingle 1\n"
		for _, m := range b.Agreed {
			text += "=" + m.Path + "\t" + node.Text(m.Print) + "\n"
		}
		if got, ok := archive.Read(text); ok || len(got.Agreed)+len(got.Held) > 0 || len(text) != n {
			t.Errorf("%d bytes are read", len(text))
		}
		// What isn't Right is told ahead.
		b.Held = b.Agreed[:1]
		if s, why := archive.Write(b); s != "" || why != api.ErrArg {
			t.Errorf("%d bytes, %d", len(s), why)
		}
	}
}

func TestRead(t *testing.T) {
	for _, b := range rights() {
		s, _ := archive.Write(b)
		if got, ok := archive.Read(s); !ok || !same(got, b) {
			t.Errorf("%v: %v, %v", b, got, ok)
		}
	}
	if b, ok := archive.Read(baseText); !ok || !same(b, base()) {
		t.Error(b, ok)
	}
}

func TestReadOfOtherTexts(t *testing.T) {
	texts := []string{
		"", "\n", "swingle 1", "swingle 1\n\n", "\nswingle 1\n", "swingle 2\n", "Swingle 1\n", "swingle 1\r\n", " swingle 1\n", "swingle 1\nswingle 1\n",
		baseText[:len(baseText)-1], baseText + "\n", baseText + "=zz\tdir ---------\n", baseText[len("swingle 1\n"):], strings.ReplaceAll(baseText, "\n", "\r\n"), strings.ReplaceAll(baseText, "\t", " "), strings.ToUpper(baseText),
	}
	for _, line := range []string{
		"a\tdir ---------", " =a\tdir ---------", "= \tdir", "+a\tdir ---------", "=a\tdir ---------\t", "=a\tdir --------", "=a dir ---------", "=a\t\tdir ---------", "=a\tnone", "=a\t", "=a", "=", "!", "=\tdir ---------", "=a\tDir ---------",
		"=a\tfile --------- 1980-01-01 00:00:00 00 00000000", "=a\tfile --------- 1980-01-01 00:00:00 0 00000001", "=a\tfile --------- 1980-01-01 00:00:00 1 ABCDEF00", "=a\tfile --------- 1980-01-01 00:00:01 1 00000000", "=/a\tdir ---------", "=.swingle\tdir ---------",
		"=b\tdir ---------\n=a\tdir ---------", "=a\tdir ---------\n=a\tdir ---------", "!b\tdir ---------\n=a\tdir ---------", "=a\tdir ---------\n!a\tdir ---------", "=a\tdir ---------\n!a\tdir rwx------", "=a\tdir ---------\n\n=b\tdir ---------",
		"=a-b\tdir ---------\n=a/b\tdir ---------",
	} {
		texts = append(texts, "swingle 1\n"+line+"\n")
	}
	for n := range len(baseText) {
		if n > 0 && baseText[n-1] != '\n' {
			texts = append(texts, baseText[:n])
		}
	}
	for _, s := range texts {
		if b, ok := archive.Read(s); ok || len(b.Agreed)+len(b.Held) > 0 {
			t.Errorf("%q: %v, %v", s, b, ok)
		}
	}
}

func TestReadOfAnything(t *testing.T) {
	dice := rand.New(rand.NewSource(1))
	fine := 0
	for range 20000 {
		s := []byte(baseText)
		for range 1 + dice.Intn(2) {
			at := dice.Intn(len(s))
			switch dice.Intn(3) {
			case 0:
				s[at] = " \n\t=!-rwx/019afdz"[dice.Intn(17)]
			case 1:
				s = slices.Delete(s, at, min(len(s), at+1+dice.Intn(40)))
			case 2:
				s = slices.Insert(s, at, " \n\t=!-rwx/019afdz"[dice.Intn(17)])
			}
		}
		b, ok := archive.Read(string(s))
		if !ok {
			if len(b.Agreed)+len(b.Held) > 0 {
				t.Errorf("%q: %v", s, b)
			}
			continue
		}
		fine++
		if text, why := archive.Write(b); text != string(s) || why != api.OK || !archive.Right(b) {
			t.Errorf("%q: %q, %d", s, text, why)
		}
	}
	if fine < 500 || fine > 19000 {
		t.Error(fine)
	}
}

// P26.2

// of is a tree of items that must be those of one.
func of(t *testing.T, l ...api.Item) *tree.Tree {
	t.Helper()
	x, _, why := tree.Of(l...)
	if why != api.OK {
		t.Fatalf("%v: %d", l, why)
	}
	return x
}

func item(path string, n api.Node) api.Item { return api.Item{Path: path, Node: n} }

func some() []api.Item {
	return []api.Item{item("a", dir(0o755)), item("a/b", dir(0)), item("a/b/c", file("12")), item("a-b", file("")), item("f", file("789"))}
}

func TestMarks(t *testing.T) {
	want := []api.Mark{mark("a", dirPrint(0o755)), mark("a/b", dirPrint(0)), mark("a/b/c", filePrint(0o644, begin, 2, crc32.ChecksumIEEE([]byte("12")))), mark("a-b", filePrint(0o644, begin, 0, 0)), mark("f", filePrint(0o644, begin, 3, crc32.ChecksumIEEE([]byte("789"))))}
	for _, x := range want {
		if i := slices.IndexFunc(some(), func(i api.Item) bool { return i.Path == x.Path }); node.Print(some()[i].Node) != x.Print {
			t.Errorf("%v: %v", x, node.Print(some()[i].Node))
		}
	}
	if l := archive.Marks(of(t, some()...)); !slices.Equal(l, want) {
		t.Errorf("%v, not %v", l, want)
	}
	if len(archive.Marks(tree.New()))+len(archive.Marks(nil)) > 0 {
		t.Error("no tree has marks")
	}
}

func TestOf(t *testing.T) {
	a := of(t, some()...)
	other := api.Node{Kind: api.File, Mode: 0o644, Time: later, Data: "789"}
	b := of(t, item("a", dir(0o755)), item("a/b", dir(1)), item("a/b/c", file("12")), item("a/b/d", file("12")), item("a-b", dir(0)), item("f", other), item("g", file("789")))
	want := []api.Mark{mark("a", dirPrint(0o755)), mark("a/b/c", node.Print(file("12")))}
	if l := archive.Of(a, b); !slices.Equal(l, want) {
		t.Error(l)
	}
	if l := archive.Of(b, a); !slices.Equal(l, want) {
		t.Error(l)
	}
	if l := archive.Of(a, a); !slices.Equal(l, archive.Marks(a)) {
		t.Error(l)
	}
	for _, x := range []*tree.Tree{nil, tree.New()} {
		if l := slices.Concat(archive.Of(a, x), archive.Of(x, a), archive.Of(x, x)); len(l) > 0 {
			t.Error(l)
		}
	}
}

func TestOfByPrints(t *testing.T) {
	n := file("789")
	for _, change := range []func(n *api.Node){
		func(n *api.Node) { n.Mode = 0o600 }, func(n *api.Node) { n.Time = later }, func(n *api.Node) { n.Data = "788" }, func(n *api.Node) { n.Data = "" }, func(n *api.Node) { *n = dir(0o644) },
	} {
		other := n
		change(&other)
		if l := archive.Of(of(t, item("x", n)), of(t, item("x", other))); len(l) > 0 {
			t.Errorf("%v, %v: %v", n, other, l)
		}
	}
}

func TestOfAsWhatBothHave(t *testing.T) {
	dice := rand.New(rand.NewSource(2))
	grown := func() *tree.Tree {
		x := tree.New()
		for range dice.Intn(40) {
			path := []string{"a", "b", "a-b"}[dice.Intn(3)]
			for dice.Intn(3) > 0 {
				path += []string{"/a", "/b", "/-"}[dice.Intn(3)]
			}
			if dice.Intn(3) == 0 {
				x.Put(path, file(strings.Repeat("x", dice.Intn(3))))
			} else {
				x.Put(path, dir(dice.Intn(2)))
			}
		}
		return x
	}
	many := 0
	for range 400 {
		a, b := grown(), grown()
		var want []api.Mark
		for _, m := range archive.Marks(a) {
			if slices.Contains(archive.Marks(b), m) {
				want = append(want, m)
			}
		}
		if l := archive.Of(a, b); !slices.Equal(l, want) {
			t.Errorf("%v, not %v", l, want)
		}
		many += len(want)
		if !archive.Right(api.Base{Agreed: want}) {
			t.Errorf("%v isn't Right", want)
		}
	}
	if many < 100 {
		t.Error(many)
	}
}

func TestFind(t *testing.T) {
	b := base()
	for _, m := range slices.Concat(b.Agreed, b.Held) {
		if p, ok := archive.Find(b, m.Path); p != m.Print || !ok {
			t.Error(m.Path, p, ok)
		}
	}
	for _, path := range []string{"", "A", "a/", "a/b/", "/a", "b", "zz", "a/b/c/d"} {
		if p, ok := archive.Find(b, path); p != (api.Print{}) || ok {
			t.Error(path, p, ok)
		}
		if p, ok := archive.Find(api.Base{}, path); p != (api.Print{}) || ok {
			t.Error(path, p, ok)
		}
	}
	// Of several the first, and Agreed ahead of Held.
	b = api.Base{Agreed: []api.Mark{mark("z", dirPrint(1)), mark("a", dirPrint(2)), mark("a", dirPrint(3))}, Held: []api.Mark{mark("a", dirPrint(4)), mark("h", dirPrint(5)), mark("h", dirPrint(6)), mark("", api.Print{})}}
	for _, c := range []struct {
		path string
		mode int
	}{{"a", 2}, {"h", 5}, {"z", 1}} {
		if p, ok := archive.Find(b, c.path); p != dirPrint(c.mode) || !ok {
			t.Error(c, p, ok)
		}
	}
	if p, ok := archive.Find(b, ""); p != (api.Print{}) || !ok {
		t.Error(p, ok)
	}
}

func TestBoth(t *testing.T) {
	b := base()
	want := []api.Mark{b.Agreed[0], b.Held[0], b.Agreed[1], b.Held[1], b.Agreed[2], b.Held[2], b.Agreed[3]}
	if l := archive.Both(b); !slices.Equal(l, want) {
		t.Errorf("%v, not %v", l, want)
	}
	b = api.Base{Agreed: []api.Mark{mark("b", dirPrint(1)), mark("a", dirPrint(2)), mark("a", dirPrint(3))}, Held: []api.Mark{mark("c", dirPrint(4)), mark("a", dirPrint(5)), mark("a-b", dirPrint(6)), mark("a/b", dirPrint(7)), mark("b", dirPrint(8)), mark("\xff", dirPrint(9)), mark("", dirPrint(10))}}
	want = []api.Mark{mark("", dirPrint(10)), mark("\xff", dirPrint(9)), mark("a", dirPrint(2)), mark("a", dirPrint(3)), mark("a", dirPrint(5)), mark("a/b", dirPrint(7)), mark("a-b", dirPrint(6)), mark("b", dirPrint(1)), mark("b", dirPrint(8)), mark("c", dirPrint(4))}
	if l := archive.Both(b); !slices.Equal(l, want) {
		t.Errorf("%v, not %v", l, want)
	}
	if l := archive.Both(api.Base{}); len(l) > 0 {
		t.Error(l)
	}
}

func TestSame(t *testing.T) {
	l := append(rights(), wrongs()...)
	l = append(l, api.Base{Agreed: []api.Mark{}, Held: []api.Mark{}}, api.Base{Agreed: base().Agreed, Held: base().Held[:2]}, api.Base{Agreed: base().Agreed[:3], Held: base().Held}, api.Base{Agreed: base().Agreed, Held: append(base().Held[:2], mark("z", dirPrint(0)))})
	for _, a := range l {
		for _, b := range l {
			if got := archive.Same(a, b); got != same(a, b) {
				t.Errorf("%v, %v: %v", a, b, got)
			}
		}
	}
	if !archive.Same(api.Base{}, api.Base{Agreed: []api.Mark{}, Held: []api.Mark{}}) {
		t.Error("nil and empty lists are two")
	}
}

// P26.3

func TestReadOfWrite(t *testing.T) {
	dice := rand.New(rand.NewSource(3))
	prints := []api.Print{dirPrint(0), dirPrint(0o777), filePrint(0o644, begin, 0, 0), filePrint(0, later, 65000, 1), filePrint(0o421, later, 1, math.MaxUint32)}
	for range 500 {
		var b api.Base
		for i := range dice.Intn(40) {
			m := mark("p"+strconv.Itoa(100+i)+strings.Repeat("/x", dice.Intn(3)), prints[dice.Intn(len(prints))])
			if dice.Intn(2) == 0 {
				b.Agreed = append(b.Agreed, m)
			} else {
				b.Held = append(b.Held, m)
			}
		}
		s, why := archive.Write(b)
		if got, ok := archive.Read(s); why != api.OK || !ok || !same(got, b) {
			t.Errorf("%v: %v, %d", b, got, why)
		}
	}
}

// P1

func TestAllCallsEnd(t *testing.T) {
	wild := api.Print{Kind: math.MinInt, Mode: math.MaxInt, Time: math.MaxUint32, Size: math.MinInt, Sum: math.MaxUint32}
	b := api.Base{Agreed: []api.Mark{mark(strings.Repeat("/", 100000), wild), {}, mark("\xff", wild)}, Held: []api.Mark{{}, {}, mark("a", wild)}}
	archive.Right(b)
	archive.Write(b)
	archive.Find(b, strings.Repeat("x", 100000))
	archive.Both(b)
	archive.Same(b, api.Base{})
	dice := rand.New(rand.NewSource(4))
	for range 1000 {
		s := make([]byte, dice.Intn(200))
		for i := range s {
			s[i] = "=!\t\nax /\xff"[dice.Intn(9)]
		}
		archive.Read(string(s))
		archive.Read("swingle 1\n" + string(s))
	}
	archive.Read(strings.Repeat("=\n", 1<<20))
}

func TestWhatIsHandedInStays(t *testing.T) {
	agreed := append(make([]api.Mark, 0, 9), mark("b", dirPrint(1)), mark("a", dirPrint(2)))
	held := append(make([]api.Mark, 0, 9), mark("c", dirPrint(3)), mark("a", dirPrint(4)))
	b := api.Base{Agreed: agreed, Held: held}
	l := archive.Both(b)
	clear(l)
	archive.Right(b)
	archive.Write(b)
	if !slices.Equal(agreed[:3], []api.Mark{mark("b", dirPrint(1)), mark("a", dirPrint(2)), {}}) || !slices.Equal(held[:3], []api.Mark{mark("c", dirPrint(3)), mark("a", dirPrint(4)), {}}) {
		t.Error(agreed[:3], held[:3])
	}
	got, _ := archive.Read(baseText)
	_ = append(got.Agreed, mark("x", dirPrint(0)))
	if !same(got, base()) {
		t.Error(got)
	}
	if l := archive.Both(base()); !slices.IsSortedFunc(l, func(a, b api.Mark) int { return name.Order(a.Path, b.Path) }) {
		t.Error(l)
	}
}
