package name_test

import (
	"math/rand"
	"slices"
	"strings"
	"testing"

	"swingle/api"
	"swingle/name"
)

func long(n int) string { return strings.Repeat("x", n) }

// deep is a path of so many parts.
func deep(n int) string { return strings.Repeat("d/", n-1) + "d" }

// wide is a path of so many bytes, of parts that aren't too long.
func wide(n int) string {
	return (strings.Repeat(long(59)+"/", n/60+1))[:n-1] + "x"
}

func rightOnes() []string {
	return []string{
		"a", "a/b", "a b/c", "...", "..a", ".a", "a..", "a.", " ", "~", "a/.swingle", ".swinglex", ".swingl", "x.swingle", ".Swingle",
		"\u00e4/\u2022", "\U0001f600", "\u0080", "*?\"<>|", deep(api.MaxDeep), long(api.MaxPart), "a/" + long(api.MaxPart), wide(api.MaxPath),
		strings.Repeat("\u00e4", 30),
	}
}

func wrongOnes() []string {
	return []string{
		"", "/", "/a", "a/", "a//b", ".", "..", "./a", "../a", "a/.", "a/..", "a/./b", "a/../b", "a/../../b",
		".swingle", ".swingle/a", ".swingle/a/b", "\x00", "a\x00", "a/\x1f", "\x7f", "a\\b", "a:b", "c:", "\n", "a/b\tc",
		"\xff", "a\xc3", "\xc0\x80", "\xed\xa0\x80", "\xf4\x90\x80\x80", "a/\x80/b",
		deep(api.MaxDeep + 1), long(api.MaxPart + 1), "a/" + long(api.MaxPart+1) + "/b", wide(api.MaxPath + 1), strings.Repeat("\u00e4", 31),
	}
}

// P13.1

func TestRight(t *testing.T) {
	if len(wide(api.MaxPath)) != 200 || len(wide(api.MaxPath+1)) != 201 {
		t.Fatal("the test's own paths")
	}
	for _, p := range rightOnes() {
		if !name.Right(p) {
			t.Errorf("%q isn't right", p)
		}
	}
	for _, p := range wrongOnes() {
		if name.Right(p) {
			t.Errorf("%q is right", p)
		}
	}
}

func TestRightByBytes(t *testing.T) {
	for c := range 128 {
		want := c >= 32 && c != 127 && c != '/' && c != '\\' && c != ':'
		if p := "a" + string(rune(c)); name.Right(p) != want {
			t.Errorf("%q", p)
		}
	}
	for c := 128; c < 256; c++ {
		if p := "a" + string([]byte{byte(c)}); name.Right(p) {
			t.Errorf("%q", p)
		}
	}
}

func TestReserved(t *testing.T) {
	if name.Reserved() != ".swingle" {
		t.Error(name.Reserved())
	}
}

func TestParts(t *testing.T) {
	for _, c := range [][]string{{"a"}, {"a", "b"}, {"a b", "c", "..."}, {"a", ".swingle"}} {
		if l := name.Parts(strings.Join(c, "/")); !slices.Equal(l, c) {
			t.Errorf("%q", l)
		}
	}
	for _, p := range rightOnes() {
		if strings.Join(name.Parts(p), "/") != p {
			t.Errorf("%q: %q", p, name.Parts(p))
		}
	}
	for _, p := range wrongOnes() {
		if l := name.Parts(p); len(l) != 0 {
			t.Errorf("%q: %q", p, l)
		}
	}
}

func TestJoin(t *testing.T) {
	for _, p := range rightOnes() {
		l := strings.Split(p, "/")
		if q, ok := name.Join(l...); !ok || q != p {
			t.Errorf("%q: %q, %v", l, q, ok)
		}
	}
	for _, p := range wrongOnes() {
		l := strings.Split(p, "/")
		if q, ok := name.Join(l...); ok || q != "" {
			t.Errorf("%q: %q, %v", l, q, ok)
		}
	}
	for _, l := range [][]string{{"a/b"}, {"a", "b/c"}, {"a/", "b"}, {"", "a"}, {"a", ""}, {"/"}, {}} {
		if q, ok := name.Join(l...); ok || q != "" {
			t.Errorf("%q: %q, %v", l, q, ok)
		}
	}
	if q, ok := name.Join(); ok || q != "" {
		t.Errorf("of none: %q, %v", q, ok)
	}
}

// P13.2

func TestClean(t *testing.T) {
	for _, c := range [][2]string{
		{"a/./b/../c/", "a/c"}, {"a", "a"}, {"./a", "a"}, {"a//b", "a/b"}, {"a/.", "a"}, {"a/", "a"}, {"a///", "a"}, {"a/b/../../c", "c"},
		{"a/b/..", "a"}, {"./././a/.//b", "a/b"}, {"a/../b", "b"}, {".swingle/../a", "a"}, {"a/.swingle", "a/.swingle"}, {"a/.../b", "a/.../b"},
		{"a:b/../c", "c"}, {"\x01/../c", "c"}, {"\xff/../c", "c"}, {long(61) + "/../c", "c"}, {deep(13) + "/..", deep(12)},
		{strings.Repeat("a/../", 1000) + "b", "b"}, {strings.Repeat("./", 1000) + "b", "b"},
	} {
		if p, ok := name.Clean(c[0]); !ok || p != c[1] {
			t.Errorf("%q: %q, %v, not %q", c[0], p, ok, c[1])
		}
	}
}

func TestCleanRefuses(t *testing.T) {
	for _, p := range []string{
		"", ".", "./", "./.", "..", "../a", "a/..", "a/../", "a/../..", "a/../../b", "./../a", "a/b/../../../c/d", "/", "/a", "//a", "/../a", "a\x00", "\x00/../a", "a/\x00b/../c",
		".swingle", "./.swingle", "a/../.swingle/b", "a:b", "a/\x01", "a/\xff", "a\\..\\b", deep(13), long(61), wide(201),
	} {
		if q, ok := name.Clean(p); ok || q != "" {
			t.Errorf("%q: %q, %v", p, q, ok)
		}
	}
}

// P13.3

func TestParentBaseUps(t *testing.T) {
	for _, c := range []struct {
		p, parent, base string
		ups             []string
	}{
		{"a", "", "a", nil},
		{"a/b", "a", "b", []string{"a"}},
		{"a b/c.d/e", "a b/c.d", "e", []string{"a b", "a b/c.d"}},
		{"aa/b/ccc/dd", "aa/b/ccc", "dd", []string{"aa", "aa/b", "aa/b/ccc"}},
	} {
		if s := name.Parent(c.p); s != c.parent {
			t.Errorf("parent of %q: %q", c.p, s)
		}
		if s := name.Base(c.p); s != c.base {
			t.Errorf("base of %q: %q", c.p, s)
		}
		if l := name.Ups(c.p); !slices.Equal(l, c.ups) {
			t.Errorf("ups of %q: %q", c.p, l)
		}
	}
	for _, p := range wrongOnes() {
		if name.Parent(p) != "" || name.Base(p) != "" || len(name.Ups(p)) != 0 {
			t.Errorf("%q: %q, %q, %q", p, name.Parent(p), name.Base(p), name.Ups(p))
		}
	}
}

func TestUpsAreAllParents(t *testing.T) {
	for _, p := range rightOnes() {
		var want []string
		for q := name.Parent(p); q != ""; q = name.Parent(q) {
			want = append([]string{q}, want...)
		}
		if l := name.Ups(p); !slices.Equal(l, want) {
			t.Errorf("%q: %q, not %q", p, l, want)
		}
	}
}

func TestUnder(t *testing.T) {
	for _, c := range []struct {
		p, q string
		want bool
	}{
		{"a", "a/b", true}, {"a", "a/b/c", true}, {"a/b", "a/b/c", true},
		{"a", "a", false}, {"a/b", "a", false}, {"a", "ab", false}, {"a", "ab/c", false}, {"b", "a/b", false}, {"", "a", false}, {"", "a/b", false}, {"", "", false},
		{"a/", "a/b", false}, {"a/", "a//b", false}, {"a", "a/", false}, {"a", "a//b", false}, {"a", "a/../b", false}, {".swingle", ".swingle/a", false},
		{"", "/a", false}, {"/", "/a", false}, {"a", "a/\x00", false}, {"d", deep(13), false}, {"d", deep(12), true},
	} {
		if name.Under(c.p, c.q) != c.want {
			t.Errorf("%q, %q: %v", c.p, c.q, !c.want)
		}
	}
}

func TestOrder(t *testing.T) {
	rising := []string{
		"", "/", "/a", "a\x00", "a/", "a/../b", "\xff",
		" ", "!", "a", "a/b", "a/b/a", "a/b!", "a/bc", "a!", "a-b", "a-b/c", "a.", "a0", "ab", "ab/a", "b", "\u00e4",
	}
	for i, p := range rising {
		for k, q := range rising {
			want := 0
			if i < k {
				want = -1
			} else if i > k {
				want = 1
			}
			if n := name.Order(p, q); n != want {
				t.Errorf("%q, %q: %d, not %d", p, q, n, want)
			}
		}
	}
	if name.Order("a/b", "a-b") != -1 {
		t.Error("not part by part")
	}
}

// byParts is the order of right paths as the document has it, part by part.
func byParts(p, q string) int { return slices.Compare(strings.Split(p, "/"), strings.Split(q, "/")) }

// some is a path of few letters, right or not.
func some(dice *rand.Rand) string {
	letters := "ab!/./-.\\"
	b := make([]byte, dice.Intn(7))
	for i := range b {
		b[i] = letters[dice.Intn(len(letters))]
	}
	return string(b)
}

func TestOrderOfMany(t *testing.T) {
	dice := rand.New(rand.NewSource(13))
	for range 50000 {
		p, q := some(dice), some(dice)
		var want int
		switch left, right := name.Right(p), name.Right(q); {
		case left && right:
			want = byParts(p, q)
		case left:
			want = 1
		case right:
			want = -1
		default:
			want = strings.Compare(p, q)
		}
		if n := name.Order(p, q); n != want {
			t.Fatalf("%q, %q: %d, not %d", p, q, n, want)
		}
	}
}

// P13.4

func TestWhatIsCleanIsRight(t *testing.T) {
	dice := rand.New(rand.NewSource(14))
	many := 0
	for range 50000 {
		p := some(dice)
		q, ok := name.Clean(p)
		if !ok {
			if name.Right(p) {
				t.Fatalf("%q is right, and not clean", p)
			}
			continue
		}
		many++
		again, fine := name.Clean(q)
		if !name.Right(q) || !fine || again != q {
			t.Fatalf("%q is cleaned to %q, and that to %q, %v", p, q, again, fine)
		}
		if name.Right(p) && p != q {
			t.Fatalf("%q is right, and cleaned to %q", p, q)
		}
	}
	if many < 10000 {
		t.Error("few were clean:", many)
	}
}

func TestWhatIsUnderStandsRightBehind(t *testing.T) {
	dice := rand.New(rand.NewSource(15))
	var l []string
	for len(l) < 300 {
		if p := some(dice); name.Right(p) {
			l = append(l, p)
			l = append(l, name.Ups(p)...)
		}
	}
	slices.SortFunc(l, name.Order)
	l = slices.Compact(l)
	for i, p := range l {
		for _, up := range name.Ups(p) {
			if !name.Under(up, p) || name.Order(up, p) != -1 || slices.Index(l, up) > i {
				t.Fatalf("%q isn't behind %q", p, up)
			}
		}
		behind := i + 1
		for behind < len(l) && name.Under(p, l[behind]) {
			behind++
		}
		for _, q := range l[behind:] {
			if name.Under(p, q) {
				t.Fatalf("%q isn't right behind %q", q, p)
			}
		}
	}
}

// P2

func TestNoPathGetsOut(t *testing.T) {
	dice := rand.New(rand.NewSource(16))
	for range 50000 {
		p := some(dice)
		if dice.Intn(4) == 0 {
			p += "\x00"
		}
		q, ok := name.Clean(p)
		for _, x := range []string{p, q} {
			if !name.Right(x) {
				continue
			}
			if strings.HasPrefix(x, "/") || strings.Contains(x, "\x00") || slices.Contains(strings.Split(x, "/"), "..") {
				t.Fatalf("%q is taken", x)
			}
		}
		if ok && (strings.HasPrefix(p, "/") || strings.Contains(p, "\x00")) {
			t.Fatalf("%q is taken", p)
		}
	}
}
