package lz_test

import (
	"math"
	"math/rand"
	"slices"
	"strings"
	"testing"

	"swingle/api"
	"swingle/lz"
)

func lit(b byte) api.Token { return api.Token{Byte: b} }

func again(long, back int) api.Token { return api.Token{Long: long, Back: back} }

// copies is so many copies, each of that one's length and from as far back.
func copies(many, long, back int) []api.Token {
	return slices.Repeat([]api.Token{again(long, back)}, many)
}

// rows is tokens in rows, behind one another.
func rows(l ...[]api.Token) []api.Token { return slices.Concat(l...) }

// lits is a text's bytes as tokens.
func lits(s string) []api.Token {
	var l []api.Token
	for _, b := range []byte(s) {
		l = append(l, lit(b))
	}
	return l
}

// noise is n bytes of so many kinds.
func noise(r *rand.Rand, n, kinds int) string {
	b := make([]byte, n)
	for i := range b {
		b[i] = byte(r.Intn(kinds))
	}
	return string(b)
}

// P7.1

func TestLimits(t *testing.T) {
	if lz.Least != 3 || lz.Most != 258 || lz.Far != 32768 || lz.Levels != 9 {
		t.Error(lz.Least, lz.Most, lz.Far, lz.Levels)
	}
}

func TestExpand(t *testing.T) {
	abc := "abcdefghij"
	for _, c := range []struct {
		l    []api.Token
		want string
	}{
		{nil, ""},
		{[]api.Token{}, ""},
		{lits("a"), "a"},
		{lits("\x00\xff\x80"), "\x00\xff\x80"},
		{[]api.Token{{}}, "\x00"},
		{rows(lits("a"), copies(1, 3, 1)), "aaaa"},
		{rows(lits("a"), copies(1, 258, 1)), strings.Repeat("a", 259)},
		{rows(lits("ab"), copies(1, 5, 2)), "abababa"},
		{rows(lits("ab"), copies(1, 3, 1)), "abbbb"},
		{rows(lits(abc), copies(1, 3, 10)), abc + "abc"},
		{rows(lits(abc), copies(1, 10, 10)), abc + abc},
		{rows(lits(abc), copies(1, 4, 3), lits("x"), copies(2, 3, 2)), abc + "hijh" + "x" + "hxh" + "xhx"},
		{rows(lits(abc), copies(1, 3, 10), copies(1, 3, 13)), abc + "abc" + "abc"},
		{rows(lits(strings.Repeat("x", lz.Far-1)+"yz"), copies(1, 4, lz.Far)), strings.Repeat("x", lz.Far-1) + "yzxxxx"},
		{rows(lits("q"+strings.Repeat("x", lz.Far-1)), copies(1, 4, lz.Far)), "q" + strings.Repeat("x", lz.Far-1) + "qxxx"},
		{lits(strings.Repeat("x", api.MaxData)), strings.Repeat("x", api.MaxData)},
		{rows(lits(strings.Repeat("x", api.MaxData-258)), copies(1, 258, 9)), strings.Repeat("x", api.MaxData)},
	} {
		s, ok := lz.Expand(c.l)
		if !ok || s != c.want {
			t.Errorf("%d tokens for %d bytes: %d bytes, %v", len(c.l), len(c.want), len(s), ok)
		}
		if !lz.Right(c.l) {
			t.Errorf("%d tokens for %d bytes aren't right", len(c.l), len(c.want))
		}
	}
}

func TestWrongTokens(t *testing.T) {
	abc, far := lits("abc"), lits(strings.Repeat("x", lz.Far+1))
	for _, l := range [][]api.Token{
		{again(3, 1)},
		{again(3, 0)},
		rows(abc, copies(1, 3, 4)),
		rows(abc, copies(1, 3, 0)),
		rows(abc, copies(1, 3, -1)),
		rows(abc, copies(1, 3, math.MaxInt)),
		rows(abc, copies(1, 3, math.MinInt)),
		rows(abc, copies(1, 1, 1)),
		rows(abc, copies(1, 2, 1)),
		rows(abc, copies(1, 259, 1)),
		rows(abc, copies(1, -3, 1)),
		rows(abc, copies(1, math.MaxInt, 1)),
		rows(abc, copies(1, math.MinInt, 1)),
		rows(abc, []api.Token{{Back: 1}}),
		rows(abc, []api.Token{{Byte: 'a', Back: 1}}),
		rows(abc, []api.Token{{Byte: 'a', Back: -1}}),
		rows(abc, []api.Token{{Byte: 'a', Long: 3, Back: 1}}),
		rows(abc, []api.Token{{Byte: 'a', Long: 3}}),
		rows(copies(1, 3, 1), abc),
		rows(abc, copies(1, 3, 4), abc, abc),
		rows(far, copies(1, 3, lz.Far+1)),
		rows(lits(strings.Repeat("x", api.MaxData)), lits("y")),
		rows(lits(strings.Repeat("x", api.MaxData)), copies(1, 3, 1)),
		rows(lits(strings.Repeat("x", api.MaxData-257)), copies(1, 258, 1)),
		rows(lits("x"), copies(300, 258, 1)),
	} {
		if s, ok := lz.Expand(l); ok || s != "" {
			t.Errorf("%v: %d bytes, %v", l[max(len(l)-3, 0):], len(s), ok)
		}
		if lz.Right(l) {
			t.Errorf("%v: right", l[max(len(l)-3, 0):])
		}
	}
}

// naive is what tokens say, told otherwise: by texts that are cut.
func naive(l []api.Token) (string, bool) {
	s := ""
	for _, x := range l {
		switch {
		case x.Long == 0 && x.Back == 0:
			s += string([]byte{x.Byte})
		case x.Byte != 0 || x.Long < 3 || x.Long > 258 || x.Back < 1 || x.Back > 32768 || x.Back > len(s):
			return "", false
		default:
			piece := s[len(s)-x.Back:]
			s += strings.Repeat(piece, x.Long/x.Back+1)[:x.Long]
		}
	}
	return s, len(s) <= 65000
}

func TestExpandAsTold(t *testing.T) {
	r := rand.New(rand.NewSource(7))
	for range 3000 {
		var l []api.Token
		for range r.Intn(8) {
			if x := lit(byte(r.Intn(3))); r.Intn(2) == 0 {
				l = append(l, x)
			} else {
				l = append(l, again(r.Intn(8), r.Intn(8)))
			}
		}
		want, right := naive(l)
		s, ok := lz.Expand(l)
		if s != want || ok != right || lz.Right(l) != right {
			t.Fatalf("%v: %q, %v, not %q, %v", l, s, ok, want, right)
		}
	}
}

func TestCount(t *testing.T) {
	for _, c := range []struct {
		l             []api.Token
		bytes, copies int
	}{
		{nil, 0, 0},
		{lits("abc"), 3, 0},
		{rows(lits("abc"), copies(2, 3, 1)), 3, 2},
		{copies(4, 258, 32768), 0, 4},
		// Of tokens that aren't right, too.
		{[]api.Token{{Back: 5}, {Byte: 1, Back: -1}, {Long: -1}, {Long: 1}, {Byte: 3, Long: math.MaxInt}, {Long: math.MinInt}}, 2, 4},
	} {
		if bytes, copies := lz.Count(c.l); bytes != c.bytes || copies != c.copies {
			t.Errorf("%v: %d, %d", c.l, bytes, copies)
		}
	}
}

func TestTokensStay(t *testing.T) {
	l := make([]api.Token, 0, 9)
	l = append(l, lit('a'), again(3, 1), lit('b'), again(4, 2))
	was := slices.Clone(l)
	lz.Right(l[:3])
	lz.Expand(l[:3])
	lz.Count(l[:3])
	if !slices.Equal(l, was) {
		t.Errorf("%v", l)
	}
}

// P7.2

// longByHand is what Long tells of places that there are.
func longByHand(s string, at, back int) int {
	n := 0
	for k := at; k < len(s) && n < 258 && s[k] == s[k-back]; k++ {
		n++
	}
	return n
}

func TestLong(t *testing.T) {
	texts := []string{"", "a", "aa", "aaaaaa", "abcabcabc", "abcabdabc", "abababab", strings.Repeat("a", 400), strings.Repeat("abc", 100) + "d" + strings.Repeat("abc", 100)}
	r := rand.New(rand.NewSource(72))
	for range 40 {
		texts = append(texts, noise(r, r.Intn(20), 2))
	}
	for _, s := range texts {
		for at := -2; at <= len(s)+2; at++ {
			for back := -2; back <= len(s)+3; back++ {
				want := 0
				if at >= 0 && at <= len(s) && back >= 1 && back <= at {
					want = longByHand(s, at, back)
				}
				if n := lz.Long(s, at, back); n != want {
					t.Fatalf("%q at %d, %d back: %d, not %d", s, at, back, n, want)
				}
			}
		}
	}
}

func TestLongAtEdges(t *testing.T) {
	same := strings.Repeat("a", 70000)
	for _, c := range []struct{ at, back, want int }{
		{1, 1, 258}, {69742, 1, 258}, {69743, 1, 257}, {69999, 69999, 1}, {70000, 1, 0}, {70000, 70000, 0}, {70001, 1, 0},
		{40000, 40000, 258}, // further back than a copy may be from
		{40000, 32768, 258}, {40000, 40001, 0}, {0, 0, 0}, {0, 1, 0}, {5, 0, 0}, {5, -1, 0}, {-1, -1, 0}, {-1, 1, 0},
		{math.MaxInt, 1, 0}, {math.MaxInt, math.MaxInt, 0}, {math.MinInt, 1, 0}, {math.MinInt, math.MinInt, 0}, {5, math.MinInt, 0}, {5, math.MaxInt, 0},
	} {
		if n := lz.Long(same, c.at, c.back); n != c.want {
			t.Errorf("at %d, %d back: %d, not %d", c.at, c.back, n, c.want)
		}
	}
	if n := lz.Long("", 0, 0); n != 0 {
		t.Error(n)
	}
}

func TestPlain(t *testing.T) {
	for _, s := range []string{"", "a", "aaaa", "\x00\xff\x00", "abcabc", strings.Repeat("ab", api.MaxData/2)} {
		if l := lz.Plain(s); !slices.Equal(l, lits(s)) {
			t.Errorf("%d bytes: %d tokens", len(s), len(l))
		}
	}
	for _, n := range []int{api.MaxData + 1, 2 * api.MaxData} {
		if l := lz.Plain(strings.Repeat("a", n)); len(l) != 0 {
			t.Errorf("%d bytes: %d tokens", n, len(l))
		}
	}
}

// P7.3

// samples is texts of many kinds.
func samples() []string {
	r := rand.New(rand.NewSource(73))
	l := []string{"", "a", "aa", "aaa", "aaaa", "ab", "abc", "abcabc", "abcabcabcabc", "\x00\x00\x00\x00", "\xff\xfe\xff\xfe\xff\xfe"}
	for range 60 {
		l = append(l, noise(r, r.Intn(300), 1+r.Intn(6)))
	}
	for _, kinds := range []int{1, 2, 4, 16, 256} {
		l = append(l, noise(r, 5000, kinds))
	}
	words := strings.Fields("the container grows at its end and then one sector is written that says how many bytes count")
	var text strings.Builder
	for text.Len() < 20000 {
		text.WriteString(words[r.Intn(len(words))] + " ")
	}
	piece := noise(r, 700, 256)
	return append(l, text.String(), piece+noise(r, lz.Far-700, 256)+piece, piece+noise(r, lz.Far-699, 256)+piece,
		strings.Repeat(piece, 80), strings.Repeat("ab", api.MaxData/2), noise(r, api.MaxData, 3))
}

func TestMatchExpands(t *testing.T) {
	for _, s := range samples() {
		for level := -1; level <= 10; level++ {
			l := lz.Match(s, level)
			if got, ok := lz.Expand(l); !ok || got != s {
				t.Errorf("%d bytes at level %d: %d bytes, %v", len(s), level, len(got), ok)
			}
			if len(l) > len(s) { // P7.4
				t.Errorf("%d bytes at level %d: %d tokens", len(s), level, len(l))
			}
		}
	}
}

func TestMatchOfLevels(t *testing.T) {
	for _, s := range samples() {
		for _, level := range []int{0, -1, -7, math.MinInt} {
			if !slices.Equal(lz.Match(s, level), lz.Plain(s)) {
				t.Errorf("%d bytes at level %d: not plain", len(s), level)
			}
		}
		for _, level := range []int{10, 11, 63, 64, math.MaxInt} {
			if !slices.Equal(lz.Match(s, level), lz.Match(s, lz.Levels)) {
				t.Errorf("%d bytes at level %d: not as at %d", len(s), level, lz.Levels)
			}
		}
	}
}

func TestMatchOfLongTexts(t *testing.T) {
	for level := 0; level <= lz.Levels; level++ {
		for _, n := range []int{api.MaxData + 1, 2 * api.MaxData} {
			if l := lz.Match(strings.Repeat("a", n), level); len(l) != 0 {
				t.Errorf("%d bytes at level %d: %d tokens", n, level, len(l))
			}
		}
	}
}

func TestMatchOfOneByte(t *testing.T) {
	few := func(n, level int, b string) {
		l := lz.Match(strings.Repeat(b, n), level)
		if 2*len(l) > n+4 {
			t.Errorf("%d bytes at level %d: %d tokens", n, level, len(l))
		}
		if s, ok := lz.Expand(l); !ok || s != strings.Repeat(b, n) {
			t.Errorf("%d bytes at level %d: %d, %v", n, level, len(s), ok)
		}
	}
	for level := 1; level <= 11; level++ {
		for n := range 800 {
			few(n, level, "a")
		}
		few(api.MaxData, level, "\x00")
		few(api.MaxData-1, level, "\xff")
	}
}

func TestMatchFinds(t *testing.T) {
	r := rand.New(rand.NewSource(74))
	piece, between := noise(r, 100, 256), noise(r, lz.Far-100, 256)
	for level := 1; level <= lz.Levels; level++ {
		if l := lz.Match("abcabcabcabc", level); !slices.Equal(l, rows(lits("abc"), copies(1, 9, 3))) {
			t.Errorf("level %d: %v", level, l)
		}
		if l := lz.Match("abcdabc", level); !slices.Equal(l, rows(lits("abcd"), copies(1, 3, 4))) {
			t.Errorf("level %d: %v", level, l)
		}
		if l := lz.Match("abcdeabcdeabc", level); !slices.Equal(l, rows(lits("abcde"), copies(1, 8, 5))) {
			t.Errorf("level %d: %v", level, l)
		}
		if l := lz.Match(piece+between+piece, level); l[len(l)-1] != again(100, lz.Far) {
			t.Errorf("level %d: %v", level, l[len(l)-1])
		}
		if l := lz.Match(piece+between+"."+piece, level); l[len(l)-1].Long == 100 {
			t.Errorf("level %d: %v", level, l[len(l)-1])
		}
	}
	// The longest one counts, as far as it is looked for, and of several the nearest.
	if l := lz.Match("abcdef.abcd-abc|abcdef", 9); l[len(l)-1] != again(6, 16) {
		t.Errorf("%v", l)
	}
	if l := lz.Match("abcd.abcd-abcd", 9); l[len(l)-1] != again(4, 5) {
		t.Errorf("%v", l)
	}
	if l := lz.Match("abcdef.abcd-abc|abcdef", 1); l[len(l)-1] == again(6, 16) {
		t.Errorf("%v", l)
	}
}

func TestMatchIsShorterAtHigherLevels(t *testing.T) {
	var text strings.Builder
	r := rand.New(rand.NewSource(75))
	words := strings.Fields("swingle keeps two sides alike a live directory on a stand in file system and one container")
	for text.Len() < 30000 {
		text.WriteString(words[r.Intn(len(words))] + " ")
	}
	low, high := len(lz.Match(text.String(), 1)), len(lz.Match(text.String(), lz.Levels))
	if high >= low || low >= text.Len()/2 {
		t.Errorf("%d bytes: %d tokens at level 1, %d at level %d", text.Len(), low, high, lz.Levels)
	}
}

func TestAnswersAreNew(t *testing.T) {
	for _, of := range []func() []api.Token{
		func() []api.Token { return lz.Plain("abcabc") },
		func() []api.Token { return lz.Match("abcabc", 5) },
	} {
		was := slices.Clone(of())
		l := of()
		l[0] = again(9, 9)
		if !slices.Equal(of(), was) {
			t.Error("what was answered ahead changed it")
		}
	}
}

// P1

func TestAllCallsEnd(t *testing.T) {
	numbers := []int{math.MinInt, -258, -1, 0, 1, 2, 3, 257, 258, 259, 32768, 32769, math.MaxInt}
	for _, a := range numbers {
		for _, b := range numbers {
			l := []api.Token{lit('a'), lit('b'), lit('c'), {Byte: 'd', Long: a, Back: b}, again(a, b), again(b, a)}
			lz.Right(l)
			lz.Expand(l)
			lz.Count(l)
			lz.Right(l[4:])
			lz.Expand(l[4:])
			lz.Long("abcabc", a, b)
		}
		lz.Match("abcabc", a)
		lz.Match("", a)
	}
}
