package pick_test

import (
	"math/rand"
	"regexp"
	"slices"
	"strings"
	"testing"

	"swingle/api"
	"swingle/name"
	"swingle/pick"
	"swingle/tree"
)

func file(data string) api.Node {
	return api.Node{Kind: api.File, Mode: 0o644, Time: 0x210000, Data: data}
}

func dir(mode int) api.Node { return api.Node{Kind: api.Dir, Mode: mode} }

// of is a tree of paths: those that end with a slash are directories.
func of(t *testing.T, l ...string) *tree.Tree {
	t.Helper()
	x := tree.New()
	for i, path := range l {
		n := file(path)
		if strings.HasSuffix(path, "/") {
			n = dir(i)
		}
		if why := x.Put(strings.TrimSuffix(path, "/"), n); why != api.OK {
			t.Fatalf("%s: %d", path, why)
		}
	}
	return x
}

// some is a tree. By bytes a-b would stand ahead of a/x.txt.
func some(t *testing.T) *tree.Tree {
	return of(t, "a/", "a/b/", "a/b/c/", "a/b/c/x.txt", "a/b/y.go", "a/x.txt", "a-b", "d/", "d/e/", "e.txt", "f/", "f/a/", "f/a/x.txt")
}

// paths is those of a tree.
func paths(x *tree.Tree) string {
	var l []string
	for path := range x.All() {
		l = append(l, path)
	}
	return strings.Join(l, " ")
}

func l(s ...string) []string { return s }

// P42.1

func TestRight(t *testing.T) {
	deep := strings.Repeat("a/", api.MaxDeep-1) + "a"
	long := strings.Repeat("a", api.MaxPath)
	for p, want := range map[string]bool{
		"a": true, "a/b": true, "*": true, "**": true, "?": true, "a/**/*.txt": true, "**/**": true, ".": true, "../..": true, ".swingle": true, "a\\b:c": true, "\x01\x7f": true, "\xff": true, " ": true, "a**b": true,
		"": false, "/": false, "/a": false, "a/": false, "a//b": false, "\x00": false, "a/b\x00": false, "//": false,
		deep: true, deep + "/a": false, long: true, long + "a": false, strings.Repeat("b", 99) + "/" + strings.Repeat("b", 100): true, strings.Repeat("b", 100) + "/" + strings.Repeat("b", 100): false,
		strings.Repeat("**/", 11) + "**": true, strings.Repeat("**/", 12) + "**": false,
	} {
		if got := pick.Right(p); got != want {
			t.Errorf("%q: %v", p, got)
		}
	}
}

func TestPart(t *testing.T) {
	for _, c := range []struct {
		p, s string
		want bool
	}{
		{"abc", "abc", true}, {"abc", "ab", false}, {"abc", "abcd", false}, {"abc", "abd", false}, {"abc", "Abc", false}, {"", "", true}, {"", "a", false}, {"a", "", false},
		{"*", "", true}, {"*", "anything", true}, {"**", "", true}, {"**", "any", true}, {"*a", "a", true}, {"*a", "bba", true}, {"*a", "ab", false}, {"a*", "a", true}, {"a*", "abc", true}, {"a*", "ba", false},
		{"a*c", "ac", true}, {"a*c", "abbbc", true}, {"a*c", "abcb", false}, {"a*b*c", "axbxbxc", true}, {"a*b*c", "axcxbx", false}, {"*a*", "bab", true}, {"*a*", "bbb", false}, {"a***b", "ab", true},
		{"?", "a", true}, {"?", "", false}, {"?", "ab", false}, {"?b", "ab", true}, {"??", "a", false}, {"??", "ab", true}, {"a?c", "abc", true}, {"a?c", "ac", false}, {"?*", "", false}, {"?*", "a", true}, {"*?", "abc", true}, {"*?", "", false}, {"*??", "a", false},
		// Just one byte, not one sign; each byte itself, whichever it is.
		{"?", "é", false}, {"??", "é", true}, {"?", "\xff", true}, {"\xc3?", "é", true}, {"[a]", "a", false}, {"[a]", "[a]", true}, {"\\*", "\\abc", true}, {"\\?", "?", false}, {".", "a", false}, {"a/b", "a/b", true}, {"*", "a/b", true}, {"\x00", "\x00", true}, {"?", "\x00", true}, {"a", "*", false}, {"a", "?", false}, {"*", "*", true}, {"?", "*", true},
		{"*.txt", "x.txt", true}, {"*.txt", ".txt", true}, {"*.txt", "x.txt.txt", true}, {"*.txt", "x.tx", false},
	} {
		if got := pick.Part(c.p, c.s); got != c.want {
			t.Errorf("%q, %q: %v", c.p, c.s, got)
		}
	}
}

func TestLongParts(t *testing.T) {
	long := strings.Repeat("a", api.MaxPath)
	for _, c := range []struct {
		p, s string
		want bool
	}{
		{long, long, true}, {"*", long, true}, {"*", long + "a", false}, {long + "a", long + "a", false}, {strings.Repeat("*", api.MaxPath), "a", true}, {strings.Repeat("*", api.MaxPath+1), "a", false}, {strings.Repeat("*", api.MaxPath+1), "", false},
		{strings.Repeat("?", api.MaxPath), long, true}, {long, long[1:], false}, {long[1:], long, false},
	} {
		if got := pick.Part(c.p, c.s); got != c.want {
			t.Errorf("%q, %q: %v", c.p, c.s, got)
		}
	}
}

// latin is a text of which each byte is a sign.
func latin(s string) string {
	var out strings.Builder
	for i := range len(s) {
		out.WriteRune(rune(s[i]))
	}
	return out.String()
}

// part is Part by another program's patterns.
func part(p, s string) bool {
	var re strings.Builder
	for i := range len(p) {
		switch p[i] {
		case '*':
			re.WriteString(".*")
		case '?':
			re.WriteString(".")
		default:
			re.WriteString(regexp.QuoteMeta(latin(p[i : i+1])))
		}
	}
	return regexp.MustCompile(`(?s)\A` + re.String() + `\z`).MatchString(latin(s))
}

// dealt is a text by dice.
func dealt(dice *rand.Rand, signs string, most int) string {
	var s strings.Builder
	for range dice.Intn(most + 1) {
		s.WriteByte(signs[dice.Intn(len(signs))])
	}
	return s.String()
}

func TestPartAsAnotherProgram(t *testing.T) {
	dice := rand.New(rand.NewSource(1))
	fits := 0
	for range 30000 {
		p, s := dealt(dice, "ab\n\xff**?", 8), dealt(dice, "aab\n\xff", 8)
		got, want := pick.Part(p, s), part(p, s)
		if got != want {
			t.Fatalf("%q, %q: %v", p, s, got)
		}
		if got {
			fits++
		}
	}
	if fits < 3000 {
		t.Error(fits)
	}
}

func TestMatch(t *testing.T) {
	for _, c := range []struct {
		p, path string
		want    bool
	}{
		{"a", "a", true}, {"a", "b", false}, {"a", "a/b", false}, {"a/b", "a", false}, {"a/b", "a/b", true}, {"*", "a", true}, {"*", "a/b", false}, {"*/*", "a/b", true}, {"*/*", "a", false}, {"?b", "ab", true}, {"a?b", "a/b", false}, {"a*b", "a/b", false},
		{"**", "a", true}, {"**", "a/b/c", true}, {"**/a", "a", true}, {"**/a", "b/a", true}, {"**/a", "b/c/a", true}, {"**/a", "a/b", false}, {"a/**", "a", true}, {"a/**", "a/b/c", true}, {"a/**", "b/a", false},
		{"a/**/*.txt", "a/x.txt", true}, {"a/**/*.txt", "a/b/c/x.txt", true}, {"a/**/*.txt", "x.txt", false}, {"a/**/*.txt", "a/b/x.go", false}, {"a/**/b/**/c", "a/b/c", true}, {"a/**/b/**/c", "a/x/b/y/z/c", true}, {"a/**/b/**/c", "a/x/y/c", false},
		{"**/**", "a", true}, {"**/**/**", "a/b", true}, {"**/*", "a", true}, {"**/*/*", "a", false}, {"**/a/**", "b/a/c", true}, {"**/a/**", "b/c", false}, {"*/**", "a", true}, {"*/**", "a/b", true},
		// Only a part that is "**" matches parts.
		{"a**", "a/b", false}, {"a**", "abc", true}, {"**a", "b/a", false}, {"**a", "ba", true}, {"***", "a/b", false}, {"***", "ab", true},
		// Neither a pattern nor a path that isn't right.
		{"", "", false}, {"", "a", false}, {"*", "", false}, {"**", "", false}, {"a/", "a", false}, {"/a", "a", false}, {"**", "a//b", false}, {"**", "/a", false}, {"**", "a/", false}, {"**", "..", false}, {"..", "..", false}, {"a/..", "a/..", false}, {".swingle", ".swingle", false}, {"**", ".swingle/a", false}, {"**", "a/.swingle", true},
		{"a\x00", "a", false}, {"*", "a\x00", false}, {"**", "a\\b", false}, {"a:b", "a:b", false}, {"**", "\xff", false}, {"\xff", "\xff", false}, {"?\xa9", "é", true}, {"*", strings.Repeat("a", 61), false}, {"*", strings.Repeat("a", 60), true},
		{"**//a", "a", false}, {strings.Repeat("*", 201), "a", false}, {strings.Repeat("*", 200), "a", true},
	} {
		if got := pick.Match(c.p, c.path); got != c.want {
			t.Errorf("%q, %q: %v", c.p, c.path, got)
		}
	}
}

func TestMatchDeepAndLong(t *testing.T) {
	deep := strings.Repeat("a/", 11) + "a"
	long := strings.Join(l(strings.Repeat("a", 60), strings.Repeat("b", 60), strings.Repeat("c", 60), strings.Repeat("d", 17)), "/")
	for _, c := range []struct {
		p, path string
		want    bool
	}{
		{deep, deep, true}, {"**", deep, true}, {strings.Repeat("**/", 11) + "**", deep, true}, {strings.Repeat("**/", 11) + "a", deep, true}, {strings.Repeat("**/", 11) + "b", deep, false}, {deep + "/**", deep, false}, {"**", deep + "/a", false}, {"a/**/a", deep, true},
		{long, long, true}, {"**", long, true}, {"**", long + "d", false}, {"*/*/*/*", long, true}, {"*/*/*", long, false},
	} {
		if got := pick.Match(c.p, c.path); got != c.want {
			t.Errorf("%q, %q: %v", c.p, c.path, got)
		}
	}
}

// match is Match by trying all, of patterns and paths that are right.
func match(signs, parts []string) bool {
	if len(signs) == 0 {
		return len(parts) == 0
	}
	if signs[0] == "**" {
		for i := 0; i <= len(parts); i++ {
			if match(signs[1:], parts[i:]) {
				return true
			}
		}
		return false
	}
	return len(parts) > 0 && part(signs[0], parts[0]) && match(signs[1:], parts[1:])
}

func TestMatchAsItIsTold(t *testing.T) {
	dice := rand.New(rand.NewSource(2))
	fits := 0
	for range 20000 {
		p, path := dealt(dice, "ab//*****?", 9), dealt(dice, "aab//", 7)
		got, right := pick.Match(p, path), pick.Right(p) && name.Right(path)
		if want := right && match(strings.Split(p, "/"), strings.Split(path, "/")); got != want {
			t.Fatalf("%q, %q: %v", p, path, got)
		}
		if got {
			fits++
		}
	}
	if fits < 500 {
		t.Error(fits)
	}
}

// Of what fits nearly there are more ways to try than there is time.
func TestManyWays(t *testing.T) {
	a := strings.Repeat("a", 60)
	stars := strings.Repeat("*a", 25) + "*b"
	path := strings.Join(l(a, a, a, "a/a/a/a"), "/")
	if pick.Part(stars, strings.Repeat(a, 3)) || !pick.Part(stars, strings.Repeat(a, 3)+"b") || pick.Match("**/"+stars+"/**/"+stars+"/**", path) || pick.Match(strings.Repeat("**/*/", 5)+"b", strings.Repeat("a/", 11)+"a") {
		t.Error("match")
	}
	if pick.Part(strings.Repeat("*?", 99)+"b", strings.Repeat("a", 200)) {
		t.Error("part")
	}
}

func TestAny(t *testing.T) {
	for _, c := range []struct {
		path string
		l    []string
		want bool
	}{
		{"a", nil, false}, {"a", l(), false}, {"a", l("a"), true}, {"a", l("b", "a"), true}, {"a", l("a", "b"), true}, {"a", l("b", "c"), false}, {"a/b", l("*", "b", "a/*"), true}, {"a", l("", "/", "a/"), false}, {"", l("**", ""), false}, {"..", l(".."), false},
	} {
		if got := pick.Any(c.path, c.l...); got != c.want {
			t.Errorf("%q, %q: %v", c.path, c.l, got)
		}
	}
}

// P42.2

func TestPaths(t *testing.T) {
	for _, c := range []struct {
		l    []string
		want string
	}{
		{nil, ""}, {l("**"), "a a/b a/b/c a/b/c/x.txt a/b/y.go a/x.txt a-b d d/e e.txt f f/a f/a/x.txt"}, {l("*"), "a a-b d e.txt f"}, {l("*.txt"), "e.txt"}, {l("**/*.txt"), "a/b/c/x.txt a/x.txt e.txt f/a/x.txt"},
		{l("f", "a-*", "a/*"), "a/b a/x.txt a-b f"}, {l("**/a"), "a f/a"}, {l("a", "a"), "a"}, {l("x", "", "a/"), ""},
	} {
		if got := strings.Join(pick.Paths(some(t), c.l...), " "); got != c.want {
			t.Errorf("%q: %q, not %q", c.l, got, c.want)
		}
	}
	for _, x := range []*tree.Tree{nil, tree.New()} {
		if got := pick.Paths(x, "**"); len(got) > 0 {
			t.Error(got)
		}
	}
}

func TestTree(t *testing.T) {
	for _, c := range []struct {
		want, not []string
		paths     string
	}{
		{nil, nil, ""}, {nil, l("**"), ""}, {l("**"), l("**"), ""}, {l("**"), nil, "a a/b a/b/c a/b/c/x.txt a/b/y.go a/x.txt a-b d d/e e.txt f f/a f/a/x.txt"},
		// All that is under what is wanted, and the directories above.
		{l("a"), nil, "a a/b a/b/c a/b/c/x.txt a/b/y.go a/x.txt"}, {l("a/b/c"), nil, "a a/b a/b/c a/b/c/x.txt"}, {l("a/b/y.go"), nil, "a a/b a/b/y.go"}, {l("**/*.txt"), nil, "a a/b a/b/c a/b/c/x.txt a/x.txt e.txt f f/a f/a/x.txt"}, {l("d"), nil, "d d/e"}, {l("**/e", "a-b"), nil, "a-b d d/e"},
		// None of what isn't, nor of what is under it.
		{l("**"), l("a"), "a-b d d/e e.txt f f/a f/a/x.txt"}, {l("**"), l("a/b"), "a a/x.txt a-b d d/e e.txt f f/a f/a/x.txt"}, {l("**"), l("**/*.txt"), "a a/b a/b/c a/b/y.go a-b d d/e f f/a"}, {l("a/b/c"), l("a/b"), ""}, {l("a/b/c"), l("a"), ""}, {l("a/b/c"), l("a/b/c/*"), "a a/b a/b/c"},
		{l("a", "f"), l("**/x.txt"), "a a/b a/b/c a/b/y.go f f/a"}, {l("**/*.txt"), l("*"), ""}, {l("**/*.txt"), l("e*", "f/*"), "a a/b a/b/c a/b/c/x.txt a/x.txt"},
		// What isn't wanted itself stands above what is, also where it is unlike all patterns.
		{l("**/c"), l("**/y.go", "nowhere"), "a a/b a/b/c a/b/c/x.txt"}, {l("nowhere", "", "/", "a/"), nil, ""}, {l("a"), l("", "/", "a/", "a\x00"), "a a/b a/b/c a/b/c/x.txt a/b/y.go a/x.txt"},
	} {
		x := some(t)
		got := pick.Tree(x, c.want, c.not)
		if paths(got) != c.paths {
			t.Errorf("%q without %q: %q, not %q", c.want, c.not, paths(got), c.paths)
		}
		for path, n := range got.All() {
			if n != x.Get(path) {
				t.Errorf("%q: %v", path, n)
			}
		}
	}
}

func TestTreeOfNothing(t *testing.T) {
	for _, x := range []*tree.Tree{nil, tree.New()} {
		got := pick.Tree(x, l("**"), nil)
		if got == nil || got.Len() != 0 || got.Put("a", dir(0)) != api.OK {
			t.Error(got)
		}
	}
}

// grown is a tree by dice.
func grown(dice *rand.Rand) *tree.Tree {
	x := tree.New()
	tops := []string{""}
	for range dice.Intn(25) {
		path := tops[dice.Intn(len(tops))] + string(rune('a'+dice.Intn(3)))
		n := file(path)
		if dice.Intn(3) > 0 {
			n = dir(dice.Intn(9))
		}
		if x.Put(path, n) == api.OK && n.Kind == api.Dir {
			tops = append(tops, path+"/")
		}
	}
	return x
}

// wanted tells if some pattern matches a path or what stands above it.
func wanted(path string, l []string) bool {
	for _, p := range append(name.Ups(path), path) {
		for _, pattern := range l {
			if pick.Right(pattern) && match(strings.Split(pattern, "/"), strings.Split(p, "/")) {
				return true
			}
		}
	}
	return false
}

func TestTreeAsItIsTold(t *testing.T) {
	dice := rand.New(rand.NewSource(3))
	for range 400 {
		x := grown(dice)
		var want, not []string
		for range dice.Intn(4) {
			want = append(want, dealt(dice, "abc//***?", 5))
		}
		for range dice.Intn(3) {
			not = append(not, dealt(dice, "abc//*?", 5))
		}
		var l []string
		for path := range x.All() {
			kept := false
			for p := range x.All() {
				kept = kept || (p == path || name.Under(path, p)) && wanted(p, want) && !wanted(p, not)
			}
			if kept {
				l = append(l, path)
			}
		}
		got := pick.Tree(x, want, not)
		if paths(got) != strings.Join(l, " ") {
			t.Fatalf("%q of %q without %q: %q", paths(x), want, not, paths(got))
		}
		if !tree.Right(got.Items()...) {
			t.Error(got.Items())
		}
	}
}

// P42.3

func TestAllOfIt(t *testing.T) {
	dice := rand.New(rand.NewSource(4))
	for range 100 {
		x := grown(dice)
		if got := pick.Tree(x, l("**"), nil); !tree.Whole(got, x) || !tree.Right(got.Items()...) {
			t.Error(paths(got))
		}
	}
}

// P1

func TestAllCallsEnd(t *testing.T) {
	odd := l("", "/", "//", "\x00", "\xff", "*", "**", "?", "..", strings.Repeat("*", 5000), strings.Repeat("**/", 5000), strings.Repeat("a", 100000), strings.Repeat("*a", 100))
	for _, p := range odd {
		pick.Right(p)
		for _, s := range odd {
			pick.Part(p, s)
			pick.Match(p, s)
			pick.Any(s, odd...)
		}
	}
	for _, x := range []*tree.Tree{nil, {}, tree.New(), some(t)} {
		pick.Tree(x, odd, odd)
		pick.Tree(x, odd, nil)
		pick.Tree(x, nil, odd)
		pick.Paths(x, odd...)
	}
}

// Rules 4 and 6

func TestWhatIsHandedInStays(t *testing.T) {
	x := some(t)
	want := append(make([]string, 0, 9), "a", "b")
	not := append(make([]string, 0, 9), "**/c")
	got := pick.Tree(x, want, not)
	pick.Paths(x, want...)
	pick.Any("a", want...)
	if !slices.Equal(want[:9], l("a", "b", "", "", "", "", "", "", "")) || !slices.Equal(not[:3], l("**/c", "", "")) || !tree.Whole(x, some(t)) {
		t.Error("changed")
	}
	got.Put("new", dir(0))
	x.Drop("a-b")
	if x.Get("new").Kind != api.None || paths(got) != "a a/b a/b/y.go a/x.txt new" {
		t.Error("kept", paths(got))
	}
}
