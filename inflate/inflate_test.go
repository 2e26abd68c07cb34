package inflate_test

import (
	"bytes"
	"compress/flate"
	"io"
	"math"
	"math/rand"
	"slices"
	"strings"
	"testing"

	"swingle/api"
	"swingle/bitio"
	"swingle/huff"
	"swingle/inflate"
	"swingle/lens"
	"swingle/symbol"
)

// packed is a text as another program deflates it.
func packed(text string, level int) string {
	var b bytes.Buffer
	w, err := flate.NewWriter(&b, level)
	if err != nil {
		panic(err)
	}
	for i := 0; i < len(text); i += 20000 {
		w.Write([]byte(text[i:min(i+20000, len(text))]))
	}
	w.Close()
	return b.String()
}

// unpacked is what another program inflates.
func unpacked(s string) (string, error) {
	b, err := io.ReadAll(flate.NewReader(strings.NewReader(s)))
	return string(b), err
}

// texts is some, up to the longest that may be.
func texts() []string {
	dice := rand.New(rand.NewSource(1))
	noise := make([]byte, 40000)
	dice.Read(noise)
	words := strings.Repeat("one two three four ", 5)
	return []string{
		"", "a", "aa", "abcabcabcabc", strings.Repeat("a", 258), strings.Repeat("a", 259), strings.Repeat("ab", 5000), words, string(noise[:300]),
		string(noise), string(noise) + string(noise[:25000]), strings.Repeat("\x00", api.MaxData), strings.Repeat(words+string(noise[:100]), 200), string(noise[:32768]) + "xyz" + string(noise[:100]),
	}
}

// step is a symbol, and bits behind it.
type step struct {
	code, more, bits int
}

func steps(codes ...int) []step {
	var l []step
	for _, code := range codes {
		l = append(l, step{code: code})
	}
	return l
}

// code is the bits of a symbol.
func code(w *bitio.Writer, lengths []int, symbol int) {
	if !huff.Write(w, lengths, symbol) {
		panic("no such symbol")
	}
}

// head writes a block's own lengths: how many there are, those of lengths, and steps by them.
func head(w *bitio.Writer, firsts, seconds, many int, short []int, l ...step) {
	w.Bits(uint32(firsts-257), 5)
	w.Bits(uint32(seconds-1), 5)
	w.Bits(uint32(many-4), 4)
	for _, at := range order()[:many] {
		w.Bits(uint32(short[at]), 3)
	}
	for _, x := range l {
		code(w, short, x.code)
		w.Bits(uint32(x.more), x.bits)
	}
}

// short is lengths of all 19 lengths.
func short() []int {
	return append(slices.Repeat([]int{4}, 13), 5, 5, 5, 5, 5, 5)
}

// rowOf writes lengths one by one.
func rowOf(w *bitio.Writer, first, second []int) {
	head(w, len(first), len(second), 19, short(), steps(slices.Concat(first, second)...)...)
}

// firstOf is lengths, of which symbols have some.
func firstOf(many int, at map[int]int) []int {
	l := make([]int, many)
	for i, n := range at {
		l[i] = n
	}
	return l
}

// fixedBlock writes bytes and copies by the fixed lengths; a Long of 0 is a byte.
func fixedBlock(w *bitio.Writer, last uint32, l ...api.Token) {
	first, second := lens.Fixed()
	w.Bits(last|1<<1, 3)
	for _, x := range l {
		if x.Long == 0 {
			code(w, first, int(x.Byte))
			continue
		}
		long, _ := symbol.Long(x.Long)
		back, _ := symbol.Back(x.Back)
		code(w, first, long.Code)
		w.Bits(uint32(long.More), long.Bits)
		code(w, second, back.Code)
		w.Bits(uint32(back.More), back.Bits)
	}
	code(w, first, symbol.End)
}

func storedAs(w *bitio.Writer, last uint32, text string) {
	w.Bits(last, 3)
	w.Align()
	w.Bits(uint32(len(text)), 16)
	w.Bits(uint32(len(text))^0xffff, 16)
	w.Text(text)
}

// tells fails if Of tells something else.
func tells(t *testing.T, s string, most int, text string, used int, why api.Errno) {
	t.Helper()
	gotText, gotUsed, gotWhy := inflate.Of(s, most)
	if gotText != text || gotUsed != used || gotWhy != why {
		t.Errorf("%.40x, at most %d: %d bytes, of %d, %d; not %d, of %d, %d", s, most, len(gotText), gotUsed, gotWhy, len(text), used, why)
	}
}

// fails fails if Of tells another error, or anything beside it.
func fails(t *testing.T, s string, most int, why api.Errno) {
	t.Helper()
	tells(t, s, most, "", 0, why)
}

// P8.1

func TestStored(t *testing.T) {
	tells(t, "\x01\x00\x00\xff\xff", 0, "", 5, api.OK)
	tells(t, "\x01\x02\x00\xfd\xffhi", 2, "hi", 7, api.OK)
	tells(t, "\xf9\x02\x00\xfd\xffhi", 2, "hi", 7, api.OK) // whatever the bits are that Align goes by
	tells(t, "\x00\x01\x00\xfe\xffa\x00\x00\x00\xff\xff\x01\x01\x00\xfe\xffb", 9, "ab", 17, api.OK)
	long := strings.Repeat("0123456789", 6500)
	var w bitio.Writer
	storedAs(&w, 1, long)
	tells(t, w.Bytes(), api.MaxData, long, len(long)+5, api.OK)
}

func TestFixed(t *testing.T) {
	tells(t, "\x03\x00", 10, "", 2, api.OK)
	all := ""
	var l []api.Token
	for b := range 256 {
		all += string([]byte{byte(b)})
		l = append(l, api.Token{Byte: byte(b)})
	}
	var w bitio.Writer
	fixedBlock(&w, 1, l...)
	tells(t, w.Bytes(), 256, all, len(w.Bytes()), api.OK)
}

func TestCopies(t *testing.T) {
	for _, c := range []struct {
		ahead      string
		long, back int
		want       string
	}{
		{"a", 3, 1, "aaaa"}, {"ab", 5, 2, "abababa"}, {"abcd", 3, 4, "abcdabc"}, {"abcd", 4, 4, "abcdabcd"}, {"abcd", 3, 2, "abcdcdc"}, {"xa", 258, 1, "x" + strings.Repeat("a", 259)},
		{"xa", 257, 1, "x" + strings.Repeat("a", 258)},
	} {
		var w bitio.Writer
		storedAs(&w, 0, c.ahead)
		fixedBlock(&w, 1, api.Token{Long: c.long, Back: c.back})
		tells(t, w.Bytes(), api.MaxData, c.want, len(w.Bytes()), api.OK)
	}
}

func TestEachLongAndBack(t *testing.T) {
	dice := rand.New(rand.NewSource(2))
	noise := make([]byte, 32768)
	dice.Read(noise)
	for n := 3; n <= 258; n++ {
		copied(t, string(noise[:300]), n, 300)
	}
	for n := 1; n <= 32768; n += 1 + n/50 {
		copied(t, string(noise), 3, n)
	}
	copied(t, string(noise), 258, 32768)
}

// copied fails if a copy behind a text is another one.
func copied(t *testing.T, ahead string, long, back int) {
	t.Helper()
	var w bitio.Writer
	storedAs(&w, 0, ahead)
	fixedBlock(&w, 1, api.Token{Long: long, Back: back})
	want := ahead
	for range long {
		want += want[len(want)-back : len(want)-back+1]
	}
	tells(t, w.Bytes(), api.MaxData, want, len(w.Bytes()), api.OK)
}

func TestBlocksBehindOneAnother(t *testing.T) {
	var w bitio.Writer
	fixedBlock(&w, 0, api.Token{Byte: 'a'}, api.Token{Byte: 'b'})
	storedAs(&w, 0, "cd")
	fixedBlock(&w, 0)
	fixedBlock(&w, 0, api.Token{Long: 4, Back: 4}) // from blocks ahead
	w.Bits(0|2<<1, 3)
	rowOf(&w, firstOf(257, map[int]int{'x': 1, 256: 1}), []int{0})
	w.Bits(0, 1)
	w.Bits(1, 1)
	storedAs(&w, 1, "!")
	tells(t, w.Bytes(), 10, "abcdabcdx!", len(w.Bytes()), api.OK)
}

func TestOwn(t *testing.T) {
	first := firstOf(286, map[int]int{'a': 2, 'b': 2, 256: 2, 257: 3, 285: 4, 265: 4})
	second := []int{1, 0, 0, 0, 2, 0, 0, 2}
	var w bitio.Writer
	w.Bits(1|2<<1, 3)
	rowOf(&w, first, second)
	for _, symbol := range []int{'a', 'b', 'b', 'a', 'b', 'a', 257} {
		code(&w, first, symbol)
	}
	code(&w, second, 4)
	w.Bits(1, 1) // 6 back
	code(&w, first, 265)
	w.Bits(1, 1) // 12 long
	code(&w, second, 0)
	code(&w, first, 285)
	code(&w, second, 0)
	code(&w, first, symbol.End)
	want := "abbabaabb" + strings.Repeat("b", 12+258)
	tells(t, w.Bytes(), 300, want, len(w.Bytes()), api.OK)
	if text, err := unpacked(w.Bytes()); text != want || err != nil {
		t.Error(text, err)
	}
}

func TestAsAnotherProgramDeflates(t *testing.T) {
	for _, text := range texts() {
		for level := -2; level <= 9; level++ {
			s := packed(text, level)
			tells(t, s, api.MaxData, text, len(s), api.OK)
			tells(t, s, len(text), text, len(s), api.OK)
		}
	}
}

// P8.2

func TestOrder(t *testing.T) {
	l := inflate.Order()
	if !slices.Equal(l, order()) {
		t.Error(l)
	}
	l[0] = 5
	if !slices.Equal(inflate.Order(), order()) {
		t.Error("an answer that was changed changes the next one")
	}
}

func TestLengths(t *testing.T) {
	for _, l := range [][]int{
		{1}, {0, 1}, {1, 0, 0}, {1, 1}, {2, 1, 2}, {0, 2, 2, 0, 2, 2}, {1, 2, 3, 4, 5, 6, 7, 8, 9, 10, 11, 12, 13, 14, 15, 15}, slices.Repeat([]int{5}, 32), firstOf(300, map[int]int{299: 1}),
	} {
		if !inflate.Lengths(l) {
			t.Errorf("%v: false", l)
		}
	}
	for _, l := range [][]int{
		nil, {}, {0}, {0, 0, 0}, {2}, {15}, {16}, {0, 2, 0}, {-1}, {1, 2}, {2, 2}, {2, 2, 2}, {1, 1, 1}, {1, 1, 15}, {2, 2, 2, 2, 2}, {1, 1, -1}, {1, 16}, {math.MinInt}, {math.MaxInt}, slices.Repeat([]int{5}, 31), slices.Repeat([]int{5}, 33),
		append([]int{1, 1}, slices.Repeat([]int{0}, 299)...),
	} {
		if inflate.Lengths(l) {
			t.Errorf("%v: true", l)
		}
	}
}

// reads fails if Tables tells something else of what was written, or goes further than that.
func reads(t *testing.T, w *bitio.Writer, first, second []int) {
	t.Helper()
	bits := w.Len()
	w.Bits(0x5a, 7)
	r := bitio.Read(w.Bytes())
	all := r.Left()
	gotFirst, gotSecond, why := inflate.Tables(r)
	if why != api.OK || !slices.Equal(gotFirst, first) || !slices.Equal(gotSecond, second) {
		t.Errorf("%d, %v, %v; not %v, %v", why, gotFirst, gotSecond, first, second)
	}
	if all-r.Left() != bits || !r.Fine() {
		t.Errorf("it went on by %d of %d bits", all-r.Left(), bits)
	}
}

func TestTables(t *testing.T) {
	for _, first := range [][]int{
		firstOf(257, map[int]int{256: 1}), firstOf(257, map[int]int{0: 1, 256: 1}), firstOf(286, map[int]int{285: 2, 256: 1, 7: 2}), firstOf(270, map[int]int{256: 15, 3: 15, 4: 14, 5: 13, 6: 12, 7: 11, 8: 10, 9: 9, 10: 8, 11: 7, 12: 6, 13: 5, 14: 4, 15: 3, 16: 2, 17: 1}),
	} {
		for _, second := range [][]int{{0}, {1}, {0, 0, 0}, {1, 1}, {0, 1}, firstOf(30, map[int]int{29: 1}), make([]int, 30), firstOf(30, map[int]int{29: 1, 0: 2, 15: 2}), append(slices.Repeat([]int{5}, 28), 4, 4)} {
			var w bitio.Writer
			rowOf(&w, first, second)
			reads(t, &w, first, second)
		}
	}
}

func TestRuns(t *testing.T) {
	// 1, 18 (11), 17 (3 to 10), 16 (3 to 6), across what parts the lists.
	lengths := make([]int, 19)
	for _, symbol := range []int{0, 1, 2, 16, 17, 18} {
		lengths[symbol] = 3
	}
	lengths[0], lengths[18] = 2, 2
	for _, c := range []struct {
		l             []step
		first, second []int
	}{
		{[]step{{1, 0, 0}, {18, 127, 7}, {18, 106, 7}, {1, 0, 0}, {0, 0, 0}}, firstOf(257, map[int]int{0: 1, 256: 1}), []int{0}},
		{[]step{{1, 0, 0}, {18, 127, 7}, {18, 99, 7}, {17, 4, 3}, {1, 0, 0}, {0, 0, 0}}, firstOf(257, map[int]int{0: 1, 256: 1}), []int{0}},
		{[]step{{1, 0, 0}, {18, 127, 7}, {18, 103, 7}, {17, 0, 3}, {1, 0, 0}, {1, 0, 0}, {17, 7, 3}, {18, 0, 7}}, firstOf(257, map[int]int{0: 1, 256: 1}), firstOf(22, map[int]int{0: 1})},
		{[]step{{18, 127, 7}, {18, 106, 7}, {0, 0, 0}, {1, 0, 0}, {17, 1, 3}}, firstOf(257, map[int]int{256: 1}), make([]int, 4)},
	} {
		var w bitio.Writer
		head(&w, len(c.first), len(c.second), 18, lengths, c.l...)
		reads(t, &w, c.first, c.second)
	}
	// 4 of the first have the length 2, which goes on in the second, by one step.
	var w bitio.Writer
	head(&w, 257, 4, 18, lengths, step{18, 127, 7}, step{18, 104, 7}, step{2, 0, 0}, step{16, 0, 2}, step{16, 1, 2})
	reads(t, &w, firstOf(257, map[int]int{253: 2, 254: 2, 255: 2, 256: 2}), []int{2, 2, 2, 2})
	// noughts, too.
	w = bitio.Writer{}
	head(&w, 260, 3, 18, lengths, step{18, 127, 7}, step{18, 107, 7}, step{1, 0, 0}, step{17, 3, 3})
	reads(t, &w, firstOf(260, map[int]int{256: 1}), []int{0, 0, 0})
}

func TestTablesAreTwoLists(t *testing.T) {
	var w bitio.Writer
	rowOf(&w, firstOf(257, map[int]int{256: 1}), []int{1, 1})
	first, second, _ := inflate.Tables(bitio.Read(w.Bytes()))
	_ = append(first, 7, 7)
	if !slices.Equal(second, []int{1, 1}) {
		t.Error(second)
	}
}

// refuses fails if Tables tells another error, or anything beside it, or the reader has moved.
func refuses(t *testing.T, s string, why api.Errno) {
	t.Helper()
	r := bitio.Read(s)
	first, second, got := inflate.Tables(r)
	if got != why || len(first) > 0 || len(second) > 0 {
		t.Errorf("%x: %d, not %d", s, got, why)
	}
	if !r.Fine() || r.Left() != 8*len(s) {
		t.Errorf("%x: the reader has %d bits left", s, r.Left())
	}
}

func TestTablesTellWhy(t *testing.T) {
	write := func(do func(w *bitio.Writer)) string {
		var w bitio.Writer
		do(&w)
		return w.Bytes()
	}
	refuses(t, "", api.ErrEnd)
	refuses(t, "\xff", api.ErrEnd)
	for _, n := range [][2]uint32{{30, 0}, {31, 0}, {0, 30}, {0, 31}, {31, 31}} {
		s := write(func(w *bitio.Writer) { w.Bits(n[0]|n[1]<<5|15<<10, 14) })
		refuses(t, s, api.ErrForm) // though all else is missing
		refuses(t, s[:1], api.ErrEnd)
	}
	refuses(t, write(func(w *bitio.Writer) { w.Bits(29|29<<5, 14) }), api.ErrEnd)
	// Lengths of lengths: 12 bits of them at least, and none that aren't Whole.
	refuses(t, write(func(w *bitio.Writer) { w.Bits(0, 24) }), api.ErrEnd)
	refuses(t, write(func(w *bitio.Writer) { w.Bits(0, 26) }), api.ErrForm)
	refuses(t, write(func(w *bitio.Writer) { w.Bits(15<<10, 32); w.Bits(0, 32) }), api.ErrEnd)
	for _, l := range [][]int{{}, {0: 1}, {0: 1, 1: 2}, {0: 1, 1: 1, 2: 7}, {18: 1}, {16: 1, 17: 1, 18: 1}, {0: 2, 1: 2, 2: 2}} {
		l = append(l, make([]int, 19-len(l))...)
		refuses(t, write(func(w *bitio.Writer) { head(w, 257, 1, 19, l); w.Bits(0, 32) }), api.ErrForm)
	}
	two := firstOf(19, map[int]int{16: 2, 1: 2, 0: 2, 18: 2})
	form := func(firsts, seconds int, l ...step) {
		t.Helper()
		refuses(t, write(func(w *bitio.Writer) { head(w, firsts, seconds, 18, two, l...); w.Bits(0, 16) }), api.ErrForm)
	}
	form(257, 1, step{16, 0, 2})
	form(257, 1, step{16, 3, 2}, step{18, 127, 7}, step{18, 127, 7})
	// Beyond the end: by one, and by more.
	form(257, 1, step{18, 127, 7}, step{18, 107, 7}, step{1, 0, 0}, step{16, 0, 2})
	form(257, 3, step{18, 127, 7}, step{18, 107, 7}, step{1, 0, 0}, step{16, 1, 2})
	form(257, 1, step{18, 127, 7}, step{18, 107, 7}, step{1, 0, 0}, step{18, 0, 7})
	form(257, 9, step{18, 127, 7}, step{18, 107, 7}, step{1, 0, 0}, step{18, 0, 7})
	// The first without 256.
	form(257, 1, step{1, 0, 0}, step{1, 0, 0}, step{18, 127, 7}, step{18, 106, 7}, step{1, 0, 0})
	form(257, 1, step{18, 127, 7}, step{18, 109, 7})
	// The first, or the second, that aren't such.
	form(257, 1, step{1, 0, 0}, step{1, 0, 0}, step{18, 127, 7}, step{18, 105, 7}, step{1, 0, 0}, step{0, 0, 0})
	form(257, 4, step{18, 127, 7}, step{18, 107, 7}, step{1, 0, 0}, step{1, 0, 0}, step{16, 0, 2})
	for _, c := range []struct{ first, second []int }{
		{firstOf(257, map[int]int{256: 2}), []int{0}}, {firstOf(257, map[int]int{256: 15}), []int{1}}, {firstOf(257, map[int]int{256: 1, 1: 2}), []int{1}}, {firstOf(257, map[int]int{255: 1}), []int{1}}, {firstOf(258, map[int]int{257: 1, 255: 1}), []int{1}},
		{firstOf(257, map[int]int{256: 1}), []int{2}}, {firstOf(257, map[int]int{256: 1}), []int{1, 2}}, {firstOf(257, map[int]int{256: 1}), []int{1, 1, 1}}, {firstOf(257, map[int]int{256: 1}), []int{0, 15}}, {make([]int, 257), []int{1}},
	} {
		refuses(t, write(func(w *bitio.Writer) { rowOf(w, c.first, c.second) }), api.ErrForm)
	}
}

func TestTablesEndTooEarly(t *testing.T) {
	var w bitio.Writer
	rowOf(&w, firstOf(286, map[int]int{256: 1, 285: 1}), slices.Repeat([]int{4}, 16))
	s := w.Bytes()
	for n := range len(s) {
		refuses(t, s[:n], api.ErrEnd)
	}
	// Of two faults the one that comes first as the row is read.
	two := firstOf(19, map[int]int{16: 2, 1: 2, 0: 2, 18: 2})
	w = bitio.Writer{}
	head(&w, 257, 1, 18, two, steps(16)...)
	w.Bits(0, 7-w.Len()%8) // one bit is left
	refuses(t, w.Bytes(), api.ErrForm)
	w = bitio.Writer{}
	head(&w, 257, 1, 18, two, step{1, 0, 0}, step{1, 0, 0})
	refuses(t, w.Bytes(), api.ErrEnd)
}

func TestTablesOfNoReader(t *testing.T) {
	if first, second, why := inflate.Tables(nil); why != api.ErrEnd || len(first)+len(second) > 0 {
		t.Error(first, second, why)
	}
	var w bitio.Writer
	rowOf(&w, firstOf(257, map[int]int{256: 1}), []int{1})
	r := bitio.Read(w.Bytes())
	r.Bits(33)
	if first, second, why := inflate.Tables(r); why != api.ErrEnd || len(first)+len(second) > 0 || r.Fine() {
		t.Error(first, second, why)
	}
}

func TestTablesFromWithin(t *testing.T) {
	first, second := firstOf(257, map[int]int{256: 1}), []int{1}
	var w bitio.Writer
	w.Bits(0, 3)
	rowOf(&w, first, second)
	r := bitio.Read(w.Bytes())
	r.Bits(3)
	gotFirst, gotSecond, why := inflate.Tables(r)
	if why != api.OK || !slices.Equal(gotFirst, first) || !slices.Equal(gotSecond, second) || r.Left() != 8*len(w.Bytes())-w.Len() {
		t.Error(gotFirst, gotSecond, why)
	}
	r = bitio.Read(w.Bytes()[:9])
	r.Bits(3)
	if _, _, why := inflate.Tables(r); why != api.ErrEnd || r.Left() != 69 || !r.Fine() {
		t.Error(why, r.Left())
	}
}

// P8.3

func TestTooFewBits(t *testing.T) {
	fails(t, "", 10, api.ErrEnd)
	fails(t, "\x03", 10, api.ErrEnd)
	for _, s := range []string{"\x00", "\x01\x02", "\x01\x02\x00", "\x01\x02\x00\xfd", "\x01\x02\x00\xfd\xff", "\x01\x02\x00\xfd\xffh", "\x00\x00\x00\xff\xff", "\x02\x00", "\x04"} {
		fails(t, s, 10, api.ErrEnd)
	}
	for _, text := range texts()[:8] {
		for level := -2; level <= 9; level++ {
			s := packed(text, level)
			for n := 0; n < len(s); n += 1 + len(s)/200 {
				fails(t, s[:n], api.MaxData, api.ErrEnd)
			}
		}
	}
}

func TestWrongForms(t *testing.T) {
	fails(t, "\x07", 10, api.ErrForm)
	fails(t, "\x06\x00\x00", 10, api.ErrForm)
	fails(t, "\x01\x02\x00\xfd\xfehi", 10, api.ErrForm)
	fails(t, "\x01\x02\x00\x02\x00hi", 10, api.ErrForm)
	fails(t, "\x01\x02\x00\xfc\xff", 10, api.ErrForm) // though its bytes are missing
	fails(t, "\x05\xff\xff", 10, api.ErrForm)         // Tables'
	first, second := lens.Fixed()
	fixed := func(do func(w *bitio.Writer)) string {
		var w bitio.Writer
		w.Bits(1|1<<1, 3)
		do(&w)
		w.Bits(0, 32)
		return w.Bytes()
	}
	for _, symbol := range []int{286, 287} {
		fails(t, fixed(func(w *bitio.Writer) { code(w, first, symbol) }), 10, api.ErrForm)
	}
	for _, symbol := range []int{30, 31} {
		fails(t, fixed(func(w *bitio.Writer) { code(w, first, 'a'); code(w, first, 257); code(w, second, symbol) }), 10, api.ErrForm)
	}
	// 284 with 31 is no length.
	aCopy := func(more uint32) string {
		return fixed(func(w *bitio.Writer) {
			code(w, first, 'a')
			code(w, first, 284)
			w.Bits(more, 5)
			code(w, second, 0)
			code(w, first, 256)
		})
	}
	fails(t, aCopy(31), 1000, api.ErrForm)
	if s, _, why := inflate.Of(aCopy(30), 1000); s != strings.Repeat("a", 258) || why != api.OK {
		t.Error(len(s), why)
	}
	// Further back than there are bytes.
	far := func(ahead string, back int) string {
		var w bitio.Writer
		storedAs(&w, 0, ahead)
		fixedBlock(&w, 1, api.Token{Long: 3, Back: back})
		return w.Bytes()
	}
	fails(t, far("", 1), 10, api.ErrForm)
	fails(t, far("abc", 4), 10, api.ErrForm)
	fails(t, far("abc", 32768), 10, api.ErrForm)
	fails(t, far("abc", 4), 3, api.ErrForm) // also where there would be too many
	tells(t, far("abc", 3), 6, "abcabc", len(far("abc", 3)), api.OK)
}

func TestCodesOfNoSymbol(t *testing.T) {
	block := func(first, second []int, l ...func(w *bitio.Writer)) string {
		var w bitio.Writer
		w.Bits(1|2<<1, 3)
		rowOf(&w, first, second)
		for _, do := range l {
			do(&w)
		}
		return w.Bytes()
	}
	ones := func(n int) func(w *bitio.Writer) {
		return func(w *bitio.Writer) { w.Bits(math.MaxUint32, n) }
	}
	end := firstOf(257, map[int]int{256: 1})
	s := block(end, []int{0}, func(w *bitio.Writer) { w.Bits(0, 1) })
	tells(t, s, 0, "", len(s), api.OK)
	fails(t, block(end, []int{0}, ones(32)), 0, api.ErrForm)
	fails(t, block(end, []int{0}, ones(8)), 0, api.ErrEnd) // it might have been one
	// A copy where there is one code of distances, or none.
	first := firstOf(258, map[int]int{'a': 1, 256: 2, 257: 2})
	put := func(symbol int) func(w *bitio.Writer) {
		return func(w *bitio.Writer) { code(w, first, symbol) }
	}
	s = block(first, []int{1}, put('a'), put(257), func(w *bitio.Writer) { w.Bits(0, 1) }, put(256))
	tells(t, s, 9, "aaaa", len(s), api.OK)
	fails(t, block(first, []int{1}, put('a'), put(257), ones(32)), 9, api.ErrForm)
	fails(t, block(first, []int{0}, put('a'), put(257), ones(32)), 9, api.ErrForm)
	s = block(first, []int{0, 0, 0}, put('a'), put('a'), put(256))
	tells(t, s, 9, "aa", len(s), api.OK)
}

func TestTooLong(t *testing.T) {
	var w bitio.Writer
	storedAs(&w, 0, "ab")
	fixedBlock(&w, 0, api.Token{Byte: 'c'}, api.Token{Long: 3, Back: 3})
	storedAs(&w, 1, "xyz")
	s := w.Bytes()
	for most := -3; most < 9; most++ {
		fails(t, s, most, api.ErrLong)
	}
	for _, most := range []int{9, 10, api.MaxData, api.MaxData + 1, math.MaxInt} {
		tells(t, s, most, "abcabcxyz", len(s), api.OK)
	}
	fails(t, s, math.MinInt, api.ErrLong)
	tells(t, "\x03\x00", -1, "", 2, api.OK)
	tells(t, "\x01\x00\x00\xff\xff", -1, "", 5, api.OK)
	// What comes first: the byte that is too many, or what is missing behind it.
	fails(t, s[:len(s)-1], 5, api.ErrLong)
	fails(t, s[:len(s)-1], 8, api.ErrEnd)
	fails(t, s[:6], 1, api.ErrEnd)
}

func TestNoMoreThanMaxData(t *testing.T) {
	full := strings.Repeat("x", api.MaxData)
	var w bitio.Writer
	storedAs(&w, 0, full)
	ahead := w.Bytes()
	tells(t, ahead+"\x03\x00", math.MaxInt, full, len(ahead)+2, api.OK)
	for _, behind := range []string{"\x01\x01\x00\xfe\xffy", packed("y", 9), packed(full, 9), packed(full, 0)} {
		fails(t, ahead+behind, math.MaxInt, api.ErrLong)
	}
	fails(t, packed(full+"x", 9), math.MaxInt, api.ErrLong)
	fails(t, packed(full+"x", -2), math.MaxInt, api.ErrLong)
	tells(t, packed(full, 9), math.MaxInt, full, len(packed(full, 9)), api.OK)
}

// dealt is bytes that may be inflated, nearly so, or not at all.
func dealt(dice *rand.Rand, some []string) string {
	b := []byte(some[dice.Intn(len(some))])
	switch dice.Intn(4) {
	case 0:
		b = make([]byte, dice.Intn(60))
		dice.Read(b)
	case 1:
		b = b[:dice.Intn(len(b)+1)]
	case 2:
		b = append(b, "behind"...)
	}
	for range dice.Intn(3) {
		if len(b) > 0 {
			// Ahead there are more kinds of faults.
			b[dice.Intn(min(len(b), 1+dice.Intn(200)))] ^= 1 << dice.Intn(8)
		}
	}
	return string(b)
}

// ownBlock is a block with lengths of its own, of which a few are wrong.
func ownBlock(dice *rand.Rand) string {
	var w bitio.Writer
	w.Bits(uint32(dice.Intn(2))|2<<1, 3)
	first := lens.Of(often(dice, 257+dice.Intn(30), true), 15)
	second := lens.Of(often(dice, 1+dice.Intn(30), false), 15)
	if dice.Intn(6) == 0 {
		first[dice.Intn(len(first))] = dice.Intn(16)
	}
	if dice.Intn(6) == 0 {
		second[dice.Intn(len(second))] = dice.Intn(16)
	}
	rowOf(&w, first, second)
	used := slices.DeleteFunc(lens.Used(first), func(symbol int) bool { return huff.Kind(first) == huff.Over })
	for range dice.Intn(40) {
		if len(used) > 0 {
			code(&w, first, used[dice.Intn(len(used))])
		}
	}
	for range dice.Intn(30) {
		w.Bits(dice.Uint32(), 8)
	}
	return w.Bytes()
}

// often is how often symbols come, in which only some do.
func often(dice *rand.Rand, n int, end bool) []int {
	many := make([]int, n)
	for range dice.Intn(40) {
		many[dice.Intn(n)] = 1 << dice.Intn(14)
	}
	if end {
		many[256] = 1
	}
	return many
}

func TestAsTheModel(t *testing.T) {
	dice := rand.New(rand.NewSource(3))
	var some []string
	for _, text := range texts()[:9] {
		for level := -2; level <= 9; level++ {
			some = append(some, packed(text, level))
		}
	}
	seen := map[api.Errno]int{}
	for range 6000 {
		s := dealt(dice, some)
		if dice.Intn(2) == 0 {
			s = ownBlock(dice)
		}
		most := []int{0, 1, 10, 300, api.MaxData}[dice.Intn(5)]
		text, used, why := model(s, most)
		tells(t, s, most, text, used, why)
		seen[why]++
		if why != api.OK || most < api.MaxData {
			continue
		}
		if other, err := unpacked(s[:used]); err != nil || other != text {
			t.Errorf("%x: another program tells %v", s, err)
		}
	}
	for _, why := range []api.Errno{api.OK, api.ErrEnd, api.ErrForm, api.ErrLong} {
		if seen[why] < 100 {
			t.Errorf("the error %d came %d times only", why, seen[why])
		}
	}
}

func TestTablesAsTheModel(t *testing.T) {
	dice := rand.New(rand.NewSource(4))
	for range 3000 {
		s := ownBlock(dice)
		p, r := spell(s), bitio.Read(s)
		p.take(3)
		r.Bits(3)
		first, second, why := tables(p)
		gotFirst, gotSecond, gotWhy := inflate.Tables(r)
		if why != gotWhy || !slices.Equal(first, gotFirst) || !slices.Equal(second, gotSecond) {
			t.Errorf("%x: %d, not %d", s, gotWhy, why)
		}
		if why == api.OK && r.Left() != len(p.bits)-p.at {
			t.Errorf("%x: %d bits are left, not %d", s, r.Left(), len(p.bits)-p.at)
		}
	}
}

// P8.4

func TestBytesBehind(t *testing.T) {
	for _, text := range texts()[:9] {
		s := packed(text, 9)
		for _, behind := range []string{"\x00", "\xff", s, strings.Repeat("x", 1000)} {
			tells(t, s+behind, api.MaxData, text, len(s), api.OK)
		}
	}
}

// P1, P2

func TestAllCallsEnd(t *testing.T) {
	dice := rand.New(rand.NewSource(5))
	for range 3000 {
		b := make([]byte, dice.Intn(400))
		dice.Read(b)
		if len(b) > 0 {
			b[0] = b[0]&^7 | byte(dice.Intn(8))
		}
		most := []int{math.MinInt, -1, 0, 1, 5, 100, api.MaxData, math.MaxInt}[dice.Intn(8)]
		text, used, why := inflate.Of(string(b), most)
		if len(text) > max(most, 0) || used > len(b) || why != api.OK && (text != "" || used != 0) {
			t.Errorf("%x, %d: %d bytes, of %d, %d", b, most, len(text), used, why)
		}
		inflate.Tables(bitio.Read(string(b)))
	}
	inflate.Of(strings.Repeat("\x00\x00\x00\xff\xff", 100000), 10)
	inflate.Lengths(slices.Repeat([]int{math.MinInt}, 1000))
}

func TestWhatIsHandedInStays(t *testing.T) {
	l := append(make([]int, 0, 9), 1, 0, 2)
	inflate.Lengths(l)
	if !slices.Equal(l, []int{1, 0, 2}) || !slices.Equal(l[:9], []int{1, 0, 2, 0, 0, 0, 0, 0, 0}) {
		t.Error(l[:9])
	}
}
