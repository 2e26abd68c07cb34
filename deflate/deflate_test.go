package deflate_test

import (
	"compress/flate"
	"io"
	"math"
	"math/rand"
	"slices"
	"strings"
	"testing"

	"swingle/api"
	"swingle/bitio"
	"swingle/block"
	"swingle/deflate"
	"swingle/inflate"
	"swingle/lz"
)

const (
	stored = 0
	fixed  = 1
	own    = 2
)

func again(long, back int) api.Token { return api.Token{Long: long, Back: back} }

// noise is bytes in which next to nothing comes again.
func noise(n int) string {
	b := make([]byte, n)
	rand.New(rand.NewSource(int64(n))).Read(b)
	return string(b)
}

// words is text as people write it, of which no line is as the one ahead.
func words(n int) string {
	dice := rand.New(rand.NewSource(int64(n)))
	known := strings.Fields("the of and a to in is was he for it with as his on be at by had not are but from or have an they which one you were her all she there would")
	var s strings.Builder
	for s.Len() < n {
		s.WriteString(known[dice.Intn(1+dice.Intn(len(known)))] + " ")
	}
	return s.String()[:n]
}

// skewed is few kinds of bytes, one far more often than others, so that copies are short and many.
func skewed(n int) string {
	dice := rand.New(rand.NewSource(int64(n)))
	b := make([]byte, n)
	for i := range b {
		b[i] = byte(dice.Intn(1 + dice.Intn(1+dice.Intn(9))))
	}
	return string(b)
}

// counted is numbers of 7 bits in bytes, with how often they came by then behind each: no three bytes come again in the first 32768.
func counted(n int) string {
	b := make([]byte, n)
	for i := range b {
		b[i] = []byte{byte(i / 2 % 128), byte(128 + i/256%128)}[i%2]
	}
	return string(b)
}

// samples are texts of all sorts, about the ends of parts, and as long as may be.
func samples() []string {
	l := []string{
		"", "a", "ab", "aaa", "aaaaaaaaaaaa", "\x00", "\xff", "\xff\xfe\xfd", "abcabcabc", strings.Repeat("the same again, ", 40), counted(256), counted(40000), skewed(30000), words(20000),
		strings.Repeat("\x00", api.MaxData), strings.Repeat("ab", api.MaxData/2), words(api.MaxData), noise(api.MaxData), skewed(api.MaxData),
		// What is short, what isn't, and both of them once more.
		words(9000) + noise(20000) + words(9000) + noise(20000), noise(17000) + strings.Repeat("x", 30000) + noise(18000), noise(9000) + noise(9000) + noise(9001),
	}
	for _, n := range []int{deflate.Part - 1, deflate.Part, deflate.Part + 1, 2*deflate.Part - 1, 2 * deflate.Part, 2*deflate.Part + 1, 8 * deflate.Part} {
		l = append(l, noise(n), words(n))
	}
	for n := 1; n < 30; n++ {
		l = append(l, noise(n), words(n), skewed(n), counted(n))
	}
	return l
}

// cut is tokens in rows, by the chapter's words.
func cut(l []api.Token) [][]api.Token {
	out := [][]api.Token{nil}
	for _, x := range l {
		if len(out[len(out)-1]) == 8000 {
			out = append(out, nil)
		}
		out[len(out)-1] = append(out[len(out)-1], x)
	}
	return out
}

// best is the kind of the fewest bits, and of several the least.
func best(l []api.Token) int {
	n := block.Sizes(l)
	switch {
	case n[0] <= n[1] && n[0] <= n[2]:
		return stored
	case n[1] <= n[2]:
		return fixed
	}
	return own
}

// made is the bytes of tokens behind what is there already.
func made(ahead string, l []api.Token) string {
	b := []byte(ahead)
	for _, x := range l {
		if x.Long == 0 {
			b = append(b, x.Byte)
		}
		for range x.Long {
			b = append(b, b[len(b)-x.Back])
		}
	}
	return string(b[len(ahead):])
}

// modelled is Of, or Stored, by the chapter's words, and how many blocks of each kind, and stored ones with copies, there are.
func modelled(t *testing.T, s string, l []api.Token, kindOf func(l []api.Token) int) (string, [4]int) {
	t.Helper()
	var many [4]int
	var w bitio.Writer
	ahead := ""
	rows := cut(l)
	for i, row := range rows {
		text, kind := made(ahead, row), kindOf(row)
		many[kind]++
		if kind == stored {
			if _, copies := lz.Count(row); copies > 0 {
				many[3]++
			}
			row = lz.Plain(text)
		}
		if !block.Write(&w, row, kind, i == len(rows)-1) {
			t.Fatalf("%d tokens aren't written by kind %d", len(row), kind)
		}
		ahead += text
	}
	if ahead != s {
		t.Fatalf("tokens of %d bytes make %d", len(s), len(ahead))
	}
	return w.Bytes(), many
}

// P11.1

func TestPart(t *testing.T) {
	if deflate.Part != 8000 {
		t.Error(deflate.Part)
	}
}

func TestParts(t *testing.T) {
	for _, c := range []struct {
		many int
		want []int
	}{
		{0, []int{0}}, {1, []int{1}}, {2, []int{2}}, {7999, []int{7999}}, {8000, []int{8000}}, {8001, []int{8000, 1}}, {15999, []int{8000, 7999}}, {16000, []int{8000, 8000}}, {16001, []int{8000, 8000, 1}},
		{65000, []int{8000, 8000, 8000, 8000, 8000, 8000, 8000, 8000, 1000}},
	} {
		l := make([]api.Token, c.many)
		for i := range l {
			l[i] = again(3+i%256, 1+i%lz.Far)
		}
		got := deflate.Parts(l)
		var sizes []int
		for _, row := range got {
			sizes = append(sizes, len(row))
		}
		if !slices.Equal(sizes, c.want) || !slices.Equal(slices.Concat(got...), l) {
			t.Errorf("%d tokens: %v", c.many, sizes)
		}
	}
	if got := deflate.Parts([]api.Token{}); len(got) != 1 || len(got[0]) != 0 {
		t.Error(got)
	}
}

// noisy is bytes that are all unlike; so many of them take 9 bits with the fixed lengths, where 25 bits are as many as a stored block's head has more.
func noisy(high int) []api.Token {
	b := []byte{0, 17, 99, 51, 4, 130, 77}
	for i := range high {
		b = append(b, byte(144+i*37%112))
	}
	return lz.Plain(string(b))
}

func TestBest(t *testing.T) {
	for _, c := range []struct {
		name  string
		l     []api.Token
		sizes func(n [3]int) bool
		want  int
	}{
		{"nothing", nil, func(n [3]int) bool { return n[1] < n[0] && n[1] < n[2] }, fixed},
		{"all bytes", lz.Plain(noise(500)), func(n [3]int) bool { return n[0] < n[1] && n[0] < n[2] }, stored},
		{"letters", lz.Plain(words(500)), func(n [3]int) bool { return n[2] < n[0] && n[2] < n[1] }, own},
		{"stored as fixed", noisy(25), func(n [3]int) bool { return n[0] == n[1] && n[0] < n[2] }, stored},
		{"fixed by a bit", noisy(24), func(n [3]int) bool { return n[1] == n[0]-1 && n[1] < n[2] }, fixed},
		{"stored by a bit", noisy(26), func(n [3]int) bool { return n[0] == n[1]-1 && n[0] < n[2] }, stored},
		{"all bytes, and a copy", append(lz.Plain(noise(500)), again(3, 400)), func(n [3]int) bool { return n[0] < n[1] && n[0] < n[2] }, stored},
		{"a long copy", append(lz.Plain("abc"), again(258, 3)), func(n [3]int) bool { return n[1] < n[0] && n[1] < n[2] }, fixed},
		{"a copy from ahead", []api.Token{again(258, lz.Far)}, func(n [3]int) bool { return n[1] < n[0] && n[1] < n[2] }, fixed},
	} {
		if n := block.Sizes(c.l); !c.sizes(n) {
			t.Fatalf("%s: %v isn't what is looked for", c.name, n)
		}
		if got := deflate.Best(c.l); got != c.want {
			t.Errorf("%s: %d, not %d", c.name, got, c.want)
		}
	}
}

// Rows that come to be as long with the fixed lengths as with their own, and stored ones that are as long with their own.
func TestBestOfTies(t *testing.T) {
	var asFixed, asStored int
	asks := func(l []api.Token) {
		n := block.Sizes(l)
		if got := deflate.Best(l); got != best(l) {
			t.Fatalf("%v: %d", n, got)
		}
		if n[1] == n[2] && n[1] < n[0] {
			asFixed++
		}
		if n[0] == n[2] && n[0] < n[1] {
			asStored++
		}
	}
	for a := range 8 {
		for others := range 37 {
			asks(lz.Plain(strings.Repeat("a", 3*a) + "bcdefghijklmnopqrstuvwxyzABCDEFGHIJK"[:others]))
		}
	}
	dice := rand.New(rand.NewSource(3))
	var high []byte // each takes 9 bits with the fixed lengths
	for range 300 {
		high = append(high, byte(144+dice.Intn(100)))
		asks(lz.Plain(string(high)))
	}
	if asFixed == 0 || asStored == 0 {
		t.Error("no ties", asFixed, asStored)
	}
}

func TestOfByHand(t *testing.T) {
	for _, c := range []struct {
		s    string
		want string
	}{
		{"", "\x03\x00"}, {"a", "\x4b\x04\x00"}, {"ab", "\x4b\x4c\x02\x00"}, {noise(100), "\x01\x64\x00\x9b\xff" + noise(100)},
	} {
		for level := range 10 {
			if got := deflate.Of(c.s, level); got != c.want {
				t.Errorf("%q: %x, not %x", c.s, got, c.want)
			}
		}
	}
}

func TestOf(t *testing.T) {
	var all [4]int
	for i, s := range samples() {
		level := []int{1, 9, 6, 0}[i%4]
		want, many := modelled(t, s, lz.Match(s, level), best)
		if got := deflate.Of(s, level); got != want {
			t.Fatalf("%d bytes at level %d: %d bytes, not %d", len(s), level, len(got), len(want))
		}
		for kind, n := range many {
			all[kind] += n
		}
	}
	if slices.Min(all[:]) == 0 {
		t.Error("not all kinds of blocks come, nor stored ones with copies", all)
	}
}

// Blocks of all kinds come in one text, and stored ones whose copies are from another one.
func TestUnlikeParts(t *testing.T) {
	s := words(30000) + noise(20000) + noise(3000)[:9] + noise(20000)[:6000]
	want, many := modelled(t, s, lz.Match(s, 9), best)
	if many[stored] == 0 || many[own] == 0 || deflate.Of(s, 9) != want {
		t.Error(many)
	}
	// A second part of one copy alone, and one that is stored with a copy, both from the first one.
	first := counted(deflate.Part)
	for _, c := range []struct {
		rest       string
		bytes      int
		kind, back int
	}{{first[:258], 0, fixed, deflate.Part}, {noise(300) + first[500:503], 300, stored, deflate.Part - 200}} {
		s = first + c.rest
		rows := deflate.Parts(lz.Match(s, 9))
		if len(rows) != 2 || len(rows[0]) != deflate.Part || len(rows[1]) != c.bytes+1 || rows[1][c.bytes].Back != c.back || deflate.Best(rows[1]) != c.kind {
			t.Fatalf("%d rows, the last one of %d", len(rows), len(rows[len(rows)-1]))
		}
		reads(t, deflate.Of(s, 9), s)
	}
}

func TestLevels(t *testing.T) {
	s := words(9000)
	for level := -1; level <= 10; level++ {
		want, _ := modelled(t, s, lz.Match(s, level), best)
		if deflate.Of(s, level) != want {
			t.Error(level)
		}
	}
	for _, level := range []int{-1, -9, math.MinInt} {
		if deflate.Of(s, level) != deflate.Of(s, 0) {
			t.Error(level)
		}
	}
	for _, level := range []int{10, 99, math.MaxInt} {
		if deflate.Of(s, level) != deflate.Of(s, 9) {
			t.Error(level)
		}
	}
	if len(deflate.Of(s, 9)) >= len(deflate.Of(s, 0)) {
		t.Error("no copies")
	}
}

func TestStoredByHand(t *testing.T) {
	// headed is a block as a whole: it begins at a byte, as the one ahead ends at one.
	headed := func(last byte, s string) string {
		n := len(s)
		return string([]byte{last, byte(n), byte(n >> 8), ^byte(n), ^byte(n >> 8)}) + s
	}
	long := noise(api.MaxData)
	for _, c := range []struct{ s, want string }{
		{"", "\x01\x00\x00\xff\xff"}, {"hi", "\x01\x02\x00\xfd\xffhi"}, {strings.Repeat("a", 300), headed(1, strings.Repeat("a", 300))},
		{long[:7999], headed(1, long[:7999])}, {long[:8000], headed(1, long[:8000])}, {long[:8001], headed(0, long[:8000]) + headed(1, long[8000:8001])}, {long[:16000], headed(0, long[:8000]) + headed(1, long[8000:16000])},
		{long[:20000], headed(0, long[:8000]) + headed(0, long[8000:16000]) + headed(1, long[16000:20000])},
	} {
		if got := deflate.Stored(c.s); got != c.want {
			t.Errorf("%d bytes: %d bytes, not %d", len(c.s), len(got), len(c.want))
		}
	}
	if got := deflate.Stored(long); len(got) != api.MaxData+9*5 || got[:5] != "\x00\x40\x1f\xbf\xe0" || got[8*8005:8*8005+5] != "\x01\xe8\x03\x17\xfc" {
		t.Error(len(got))
	}
}

func TestStored(t *testing.T) {
	for _, s := range samples() {
		want, _ := modelled(t, s, lz.Plain(s), func([]api.Token) int { return stored })
		if got := deflate.Stored(s); got != want {
			t.Errorf("%d bytes: %d bytes, not %d", len(s), len(got), len(want))
		}
	}
}

func TestTooLong(t *testing.T) {
	for _, c := range []string{"a", "ab", "\x00", noise(100)} {
		s := strings.Repeat(c, 70000)
		for _, n := range []int{api.MaxData + 1, api.MaxData + 2, 1 << 16, 70000, len(s)} {
			for level := -1; level <= 10; level++ {
				if got := deflate.Of(s[:n], level); got != "" {
					t.Errorf("%d bytes at level %d: %d bytes", n, level, len(got))
				}
			}
			if got := deflate.Stored(s[:n]); got != "" {
				t.Errorf("%d bytes stored: %d bytes", n, len(got))
			}
		}
		if deflate.Of(s[:api.MaxData], 6) == "" || deflate.Stored(s[:api.MaxData]) == "" {
			t.Error("as long as may be")
		}
	}
}

func TestMost(t *testing.T) {
	for n, want := range map[int]int{
		0: 6, 1: 7, 2: 8, 7999: 8005, 8000: 8006, 8001: 8013, 15999: 16011, 16000: 16012, 16001: 16019, 64000: 64048, 64001: 64055, 64999: 65053, 65000: 65054,
		-1: 6, -8000: 6, math.MinInt: 6, 65001: 65054, 70000: 65054, math.MaxInt: 65054,
	} {
		if got := deflate.Most(n); got != want {
			t.Errorf("%d: %d, not %d", n, got, want)
		}
	}
	for n := range api.MaxData + 1 {
		rows := 0
		for left := n; left > 0 || rows == 0; left -= deflate.Part {
			rows++
		}
		if got := deflate.Most(n); got != n+6*rows {
			t.Fatalf("%d: %d", n, got)
		}
	}
}

// P11.2

// reads fails if what is laid isn't the text, or ends elsewhere, for swingle or for other programs.
func reads(t *testing.T, laid, s string) {
	t.Helper()
	got, used, why := inflate.Of(laid, len(s))
	if got != s || used != len(laid) || why != api.OK {
		t.Errorf("%d bytes: %d bytes of %d, error %d", len(s), used, len(laid), why)
	}
	other, err := io.ReadAll(flate.NewReader(strings.NewReader(laid)))
	if err != nil || string(other) != s {
		t.Errorf("%d bytes: %v", len(s), err)
	}
}

func TestItIsRead(t *testing.T) {
	for i, s := range samples() {
		reads(t, deflate.Of(s, i%10), s)
		reads(t, deflate.Of(s, 6), s)
		reads(t, deflate.Stored(s), s)
	}
}

// Texts of unlike pieces, so that blocks of one kind stand behind those of another, wherever in a byte these end.
func TestPiecesAreRead(t *testing.T) {
	dice := rand.New(rand.NewSource(5))
	for i := range 40 {
		s := ""
		for len(s) < 1600*i {
			n := 1 + dice.Intn(12000)
			s += []string{noise(n), words(n), skewed(n), strings.Repeat("z", n)}[dice.Intn(4)]
		}
		s = s[:min(len(s), api.MaxData)]
		laid := deflate.Of(s, i%10)
		reads(t, laid, s)
		if len(laid) > deflate.Most(len(s)) {
			t.Errorf("%d bytes by %d", len(s), len(laid))
		}
	}
}

// P11.3

func TestNotLongerThanMost(t *testing.T) {
	for _, s := range samples() {
		for _, level := range []int{0, 6} {
			n := len(deflate.Of(s, level))
			if n > deflate.Most(len(s)) {
				t.Errorf("%d bytes at level %d by %d", len(s), level, n)
			}
			if len(s) <= deflate.Part && n > len(deflate.Stored(s)) {
				t.Errorf("%d bytes at level %d by %d, and stored by %d", len(s), level, n, len(deflate.Stored(s)))
			}
		}
		if n := len(deflate.Stored(s)); n > deflate.Most(len(s)) {
			t.Errorf("%d bytes stored by %d", len(s), n)
		}
	}
}

func TestItGetsShort(t *testing.T) {
	for _, c := range []struct {
		s    string
		most int
	}{
		{strings.Repeat("\x00", api.MaxData), api.MaxData / 100}, {strings.Repeat("the same again, ", 4000), api.MaxData / 100}, {words(api.MaxData), api.MaxData / 2}, {skewed(api.MaxData), api.MaxData / 2},
	} {
		if n := len(deflate.Of(c.s, 6)); n > c.most {
			t.Errorf("%.20q: %d bytes", c.s, n)
		}
	}
}

// P1

func TestAllCallsEnd(t *testing.T) {
	wrong := []api.Token{
		{Long: 1, Back: 1}, {Long: 259, Back: 1}, {Long: 3}, {Long: 3, Back: -1}, {Long: 3, Back: 32769}, {Long: -1, Back: 1}, {Byte: 1, Long: 3, Back: 1}, {Back: 1},
		{Long: math.MaxInt, Back: math.MaxInt}, {Long: math.MinInt, Back: math.MinInt}, {Byte: 255, Long: math.MaxInt}, {Byte: 255, Back: math.MinInt},
	}
	for _, x := range wrong {
		l := append(lz.Plain("ab"), x, x)
		deflate.Best(l)
		if got := deflate.Parts(l); len(got) != 1 || !slices.Equal(got[0], l) {
			t.Error(got)
		}
	}
	deflate.Best(make([]api.Token, 200000))
	deflate.Best(slices.Repeat([]api.Token{again(258, 1)}, 9000))
	for _, s := range []string{"", "\x00", noise(70000), strings.Repeat("a", 1<<20)} {
		for _, level := range []int{math.MinInt, -1, 0, 9, 10, math.MaxInt} {
			deflate.Of(s, level)
		}
		deflate.Stored(s)
	}
}

// Rules 4 and 6

func TestWhatIsHandedInStays(t *testing.T) {
	spare := append(make([]api.Token, 0, 20000), lz.Plain(words(9000))...)
	whole := spare[:cap(spare)]
	was := slices.Clone(whole)
	deflate.Best(spare)
	for _, row := range deflate.Parts(spare) {
		row = append(row, again(3, 3))
		for i := range row {
			row[i] = again(4, 4)
		}
	}
	if !slices.Equal(whole, was) {
		t.Error("changed")
	}
}

func TestRowsShareNothing(t *testing.T) {
	l := lz.Plain(noise(20000))
	rows := deflate.Parts(l)
	for i, row := range rows {
		full := row[:cap(row)]
		for k := range full {
			full[k] = again(5, 5)
		}
		for _, other := range rows[i+1:] {
			if slices.Contains(other, again(5, 5)) {
				t.Fatal("shared")
			}
		}
	}
}

func TestNothingIsKept(t *testing.T) {
	s, other := words(20000), noise(20000)
	was, stored := deflate.Of(s, 6), deflate.Stored(s)
	deflate.Of(other, 9)
	deflate.Stored(other)
	if deflate.Of(s, 6) != was || deflate.Stored(s) != stored {
		t.Error("kept")
	}
}
