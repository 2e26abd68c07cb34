package block_test

import (
	"compress/flate"
	"io"
	"math"
	"math/rand"
	"reflect"
	"slices"
	"strings"
	"testing"

	"swingle/api"
	"swingle/bitio"
	"swingle/block"
	"swingle/huff"
	"swingle/inflate"
	"swingle/lens"
	"swingle/lz"
	"swingle/runs"
)

const (
	stored = 0
	fixed  = 1
	own    = 2
)

func lits(s string) []api.Token { return lz.Plain(s) }

func again(long, back int) api.Token { return api.Token{Long: long, Back: back} }

// expanded is what tokens make behind what stands ahead of them, byte by byte.
func expanded(ahead string, l []api.Token) string {
	b := []byte(ahead)
	for _, x := range l {
		if x.Long == 0 {
			b = append(b, x.Byte)
		}
		for range x.Long {
			b = append(b, b[len(b)-x.Back])
		}
	}
	return string(b[len(ahead):])
}

// someAhead is as many bytes as a copy may reach back.
func someAhead() string {
	b := make([]byte, lz.Far)
	rand.New(rand.NewSource(7)).Read(b)
	return string(b)
}

// dealt is tokens of which many or few are copies, of as many kinds of bytes as told, some of these far more often than others.
func dealt(dice *rand.Rand, many, kinds, copies int) []api.Token {
	var l []api.Token
	for range many {
		if dice.Intn(100) < copies {
			l = append(l, again(3+dice.Intn(1+dice.Intn(256)), 1+dice.Intn(1+dice.Intn(lz.Far))))
		} else {
			l = append(l, api.Token{Byte: byte(dice.Intn(1 + dice.Intn(kinds)))})
		}
	}
	return l
}

// edges is each length, and each distance at which a code begins or ends.
func edges() []api.Token {
	var l []api.Token
	for long := 3; long <= 258; long++ {
		l = append(l, again(long, 1))
	}
	for n := 1; n <= lz.Far; n *= 2 {
		for _, back := range []int{n - 1, n, n + 1, n + n/2 - 1, n + n/2, n + n/2 + 1} {
			if back >= 1 && back <= lz.Far {
				l = append(l, again(3, back))
			}
		}
	}
	return l
}

// steep is numbers of which each is more than the two ahead: the codes of what comes so often would be longer than they may be.
func steep() []int {
	l := []int{1, 2}
	for len(l) < 18 {
		l = append(l, l[len(l)-1]+l[len(l)-2]+1)
	}
	return l
}

// rare is bytes that come as often as these numbers.
func rare() []api.Token {
	var s strings.Builder
	for c, n := range steep() {
		s.WriteString(strings.Repeat(string(rune('a'+c)), n))
	}
	return lits(s.String())
}

// far is distances that do.
func far() []api.Token {
	var l []api.Token
	for code, n := range steep() {
		back := []int{1, 2, 3, 4, 5, 7, 9, 13, 17, 25, 33, 49, 65, 97, 129, 193, 257, 385}[code]
		l = append(l, slices.Repeat([]api.Token{again(3, back)}, n)...)
	}
	return l
}

// gappy is bytes of which each comes twice as often as the one ahead, and between them are ever more that don't come: so steps come unlike often.
func gappy() []api.Token {
	var l []api.Token
	for c := 0; c < 256; c++ {
		for range 1 << (c * 7 % 11) {
			if c*c%9 < 5 {
				l = append(l, api.Token{Byte: byte(c)})
			}
		}
	}
	return l
}

// samples is rows of tokens of all sorts.
func samples() [][]api.Token {
	all := make([]byte, 256)
	for i := range all {
		all[i] = byte(i)
	}
	l := [][]api.Token{
		nil, lits("a"), lits("aaaa"), lits("ab"), {again(3, 1)}, {again(258, 32768)}, {again(257, 24577)}, lits(string(all)), lits(string(all[:255])), lits(strings.Repeat(string(all), 3)),
		{again(10, 5), again(10, 5)}, append(lits("abc"), again(6, 3)), edges(), rare(), far(), gappy(), lz.Match(strings.Repeat("to be or not to be, ", 400), 9),
	}
	dice := rand.New(rand.NewSource(1))
	for i := range 120 {
		l = append(l, dealt(dice, 1+dice.Intn(1+i*i/2), 1+dice.Intn(256), dice.Intn(101)*(i%2)))
	}
	return l
}

// longCode and backCode are the codes of lengths and distances as RFC 1951 lists them, by where each begins, and their bits.
func longCode(n int) (code, bits int) {
	begins := []int{3, 4, 5, 6, 7, 8, 9, 10, 11, 13, 15, 17, 19, 23, 27, 31, 35, 43, 51, 59, 67, 83, 99, 115, 131, 163, 195, 227, 258}
	sizes := []int{0, 0, 0, 0, 0, 0, 0, 0, 1, 1, 1, 1, 2, 2, 2, 2, 3, 3, 3, 3, 4, 4, 4, 4, 5, 5, 5, 5, 0}
	at := below(begins, n)
	return 257 + at, sizes[at]
}

func backCode(n int) (code, bits int) {
	begins := []int{1, 2, 3, 4, 5, 7, 9, 13, 17, 25, 33, 49, 65, 97, 129, 193, 257, 385, 513, 769, 1025, 1537, 2049, 3073, 4097, 6145, 8193, 12289, 16385, 24577}
	sizes := []int{0, 0, 0, 0, 1, 1, 2, 2, 3, 3, 4, 4, 5, 5, 6, 6, 7, 7, 8, 8, 9, 9, 10, 10, 11, 11, 12, 12, 13, 13}
	at := below(begins, n)
	return at, sizes[at]
}

// below is the place of the last one that isn't above n.
func below(begins []int, n int) int {
	at := 0
	for i, begin := range begins {
		if begin <= n {
			at = i
		}
	}
	return at
}

// counted is how often symbols come, and how many bits stand behind them.
func counted(l []api.Token) (first, second []int, bits int) {
	first, second = make([]int, 286), make([]int, 30)
	first[256] = 1
	for _, x := range l {
		if x.Long == 0 {
			first[x.Byte]++
			continue
		}
		long, longBits := longCode(x.Long)
		back, backBits := backCode(x.Back)
		first[long]++
		second[back]++
		bits += longBits + backBits
	}
	return first, second, bits
}

// cost is how many bits symbols have by their lengths.
func cost(many, lens []int) int {
	n := 0
	for symbol, times := range many {
		if symbol < len(lens) {
			n += times * lens[symbol]
		}
	}
	return n
}

// P10.1

func TestMany(t *testing.T) {
	for _, l := range samples() {
		first, second, _ := counted(l)
		gotFirst, gotSecond := block.Many(l)
		if !slices.Equal(gotFirst, first) || !slices.Equal(gotSecond, second) {
			t.Fatalf("of %d tokens: %v, %v", len(l), gotFirst, gotSecond)
		}
	}
}

func TestManyByHand(t *testing.T) {
	first, second := block.Many(append(lits("aba\xff\x00"), again(258, 32768), again(3, 1), again(3, 4), again(257, 5), again(3, 6)))
	want := map[int]int{0: 1, 'a': 2, 'b': 1, 255: 1, 256: 1, 257: 3, 284: 1, 285: 1}
	for symbol, n := range first {
		if n != want[symbol] {
			t.Errorf("%d comes %d times", symbol, n)
		}
	}
	want = map[int]int{0: 1, 3: 1, 4: 2, 29: 1}
	for symbol, n := range second {
		if n != want[symbol] {
			t.Errorf("distance %d comes %d times", symbol, n)
		}
	}
	first, second = block.Many(nil)
	if len(first) != 286 || len(second) != 30 || first[256] != 1 || len(lens.Used(first)) != 1 || len(lens.Used(second)) != 0 {
		t.Error(first, second)
	}
}

func TestBody(t *testing.T) {
	dice := rand.New(rand.NewSource(3))
	for _, l := range samples() {
		first, second, bits := counted(l)
		var a, b []int
		for range dice.Intn(300) {
			a = append(a, dice.Intn(16))
		}
		for range dice.Intn(40) {
			b = append(b, dice.Intn(16))
		}
		if got, want := block.Body(l, a, b), bits+cost(first, a)+cost(second, b); got != want {
			t.Fatalf("of %d tokens: %d, not %d", len(l), got, want)
		}
	}
}

func TestBodyByHand(t *testing.T) {
	a, b := lens.Fixed()
	for _, c := range []struct {
		l    []api.Token
		want int
	}{
		{nil, 7}, {lits("a"), 15}, {lits("\xff"), 16}, {[]api.Token{again(3, 1)}, 7 + 7 + 5}, {[]api.Token{again(13, 7)}, 7 + 7 + 1 + 5 + 1}, {[]api.Token{again(257, 32768)}, 7 + 8 + 5 + 5 + 13}, {[]api.Token{again(258, 1)}, 7 + 8 + 5},
	} {
		if got := block.Body(c.l, a, b); got != c.want {
			t.Errorf("%v: %d, not %d", c.l, got, c.want)
		}
	}
	if n := block.Body([]api.Token{again(13, 7)}, nil, nil); n != 2 {
		t.Error("without lengths", n)
	}
}

func TestMade(t *testing.T) {
	for _, l := range samples() {
		p := block.Made(l)
		first, second, _ := counted(l)
		if !slices.Equal(p.Lits, lens.Trim(lens.Of(first, 15), 257)) || !slices.Equal(p.Backs, lens.Trim(lens.Of(second, 15), 1)) {
			t.Fatal(p.Lits, p.Backs)
		}
		row := append(slices.Clone(p.Lits), p.Backs...)
		if back, ok := runs.Back(p.Steps); !ok || !slices.Equal(back, row) || !slices.Equal(p.Steps, runs.Of(row)) {
			t.Fatal(p.Steps)
		}
		many := runs.Count(p.Steps)
		if !slices.Equal(p.Lens, lens.Of(many[:], 7)) || huff.Kind(p.Lens) != huff.Whole || len(p.Lens) != 19 {
			t.Fatal(p.Lens)
		}
	}
}

func TestMadeOfNothing(t *testing.T) {
	p := block.Made(nil)
	first := make([]int, 257)
	first[256] = 1
	steps := []runs.Step{{Sym: 18, Bits: 7, More: 127}, {Sym: 18, Bits: 7, More: 107}, {Sym: 1}, {Sym: 0}}
	if !slices.Equal(p.Lits, first) || !slices.Equal(p.Backs, []int{0}) || !slices.Equal(p.Steps, steps) {
		t.Error(p)
	}
	if p.Lens[18] != 1 || p.Lens[0] != 2 || p.Lens[1] != 2 || len(lens.Used(p.Lens)) != 3 {
		t.Error(p.Lens)
	}
}

// A step may stand for the end of the first lengths and the beginning of the second ones: here the end, 7 lengths, and 8 distances come about as often.
func TestStepsGoOverBothRows(t *testing.T) {
	var l []api.Token
	for long := 3; long <= 9; long++ {
		l = append(l, again(long, []int{1, 2, 3, 4, 5, 7, 9}[long-3]))
	}
	l = append(l, again(3, 13))
	p := block.Made(l)
	if len(p.Lits) != 264 || len(p.Backs) != 8 {
		t.Fatal(p)
	}
	at := 0
	for _, s := range p.Steps {
		n, _ := runs.Back([]runs.Step{{Sym: 1}, s})
		if at < len(p.Lits) && at+len(n)-1 > len(p.Lits) {
			return
		}
		at += len(n) - 1
	}
	t.Error("none does", p)
}

func TestLongestCodes(t *testing.T) {
	if a, b := block.Made(rare()).Lits, block.Made(far()).Backs; slices.Max(a) != 15 || slices.Max(b) != 15 {
		t.Error(slices.Max(a), slices.Max(b))
	}
	var cut int
	for _, l := range samples() {
		p := block.Made(l)
		many := runs.Count(p.Steps)
		if slices.Max(lens.Of(many[:], 15)) > 7 {
			cut++
		}
		if slices.Max(p.Lens) > 7 {
			t.Fatal(p.Lens)
		}
	}
	if cut == 0 {
		t.Error("no sample has lengths of lengths that would be longer than 7")
	}
}

// P10.2

func TestSizesByHand(t *testing.T) {
	for _, c := range []struct {
		l    []api.Token
		want [3]int
	}{
		// The steps 18, 18, 1, 0; of the lengths of lengths the last one that is laid is that of 1, the last but one.
		{nil, [3]int{35, 10, 3 + 14 + 18*3 + 2*(1+7) + 2 + 2 + 1}},
		// 18, 1, 18, 18, 1, 0.
		{lits("a"), [3]int{43, 18, 3 + 14 + 18*3 + 3*(1+7) + 2*2 + 2 + 2}},
		// 18, 18, 1, 18, 1, 18, 1.
		{[]api.Token{again(258, 32768)}, [3]int{35 + 8*258, 10 + 8 + 5 + 13, 3 + 14 + 18*3 + 4*(1+7) + 3 + 3 + 13}},
	} {
		if got := block.Sizes(c.l); got != c.want {
			t.Errorf("%v: %v, not %v", c.l, got, c.want)
		}
	}
}

// zigzag is the symbols of steps in the order of their lengths.
func zigzag() []int {
	l := []int{16, 17, 18, 0, 8}
	for i := 1; i <= 7; i++ {
		l = append(l, 8-i, 8+i)
	}
	return l
}

func TestSizes(t *testing.T) {
	for _, l := range samples() {
		first, second, bits := counted(l)
		a, b := lens.Fixed()
		p := block.Made(l)
		last := 4
		for at, symbol := range zigzag() {
			if p.Lens[symbol] > 0 {
				last = max(last, at+1)
			}
		}
		plan := 14 + 3*last
		for _, s := range p.Steps {
			plan += p.Lens[s.Sym] + s.Bits
		}
		want := [3]int{35 + 8*len(expanded(someAhead(), l)), 3 + bits + cost(first, a) + cost(second, b), 3 + plan + bits + cost(first, p.Lits) + cost(second, p.Backs)}
		if got := block.Sizes(l); got != want {
			t.Fatalf("of %d tokens: %v, not %v", len(l), got, want)
		}
	}
}

// P10.3, P10.4

// written is a block behind some bits that stand there already, and these bits.
func written(t *testing.T, bits int, l []api.Token, kind int, last bool) string {
	t.Helper()
	var w bitio.Writer
	w.Bits(0xffffffff, bits)
	if !block.Write(&w, l, kind, last) {
		t.Fatalf("%d tokens aren't written by kind %d", len(l), kind)
	}
	want := bits + block.Sizes(l)[kind]
	if kind == stored {
		want += (8 - (bits+3)%8) % 8
	}
	if w.Len() != want {
		t.Errorf("%d tokens by kind %d behind %d bits: %d bits, not %d", len(l), kind, bits, w.Len(), want)
	}
	return w.Bytes()
}

// may tells if a sample may be written by a kind.
func may(l []api.Token, kind int) bool {
	_, copies := lz.Count(l)
	return kind != stored || copies == 0
}

func TestOtherProgramsReadIt(t *testing.T) {
	ahead := someAhead()
	for _, l := range samples() {
		for kind := stored; kind <= own; kind++ {
			if !may(l, kind) {
				continue
			}
			s := written(t, 0, l, kind, true)
			got, err := io.ReadAll(flate.NewReaderDict(strings.NewReader(s), []byte(ahead)))
			if err != nil || string(got) != expanded(ahead, l) {
				t.Fatalf("%d tokens by kind %d: %v", len(l), kind, err)
			}
		}
	}
}

// A block is read behind what its copies reach back to, wherever in a byte it begins.
func TestItIsRead(t *testing.T) {
	ahead := someAhead()
	for i, l := range samples() {
		text := expanded(ahead, l)
		if len(text) > 30000 {
			continue
		}
		for kind := stored; kind <= own; kind++ {
			if !may(l, kind) {
				continue
			}
			var w bitio.Writer
			ok := block.Write(&w, lits(ahead), stored, false)
			for range i % 8 { // each has 10 bits
				ok = block.Write(&w, nil, fixed, false) && ok
			}
			ok = block.Write(&w, l, kind, false) && ok
			ok = block.Write(&w, l[:0], i%3, true) && ok
			got, used, why := inflate.Of(w.Bytes(), api.MaxData)
			if !ok || why != api.OK || got != ahead+text || used != len(w.Bytes()) {
				t.Fatalf("%d tokens by kind %d: %d, %d bytes", len(l), kind, why, len(got))
			}
		}
	}
}

func TestHeads(t *testing.T) {
	for kind := stored; kind <= own; kind++ {
		for _, last := range []bool{false, true} {
			for bits := range 9 {
				r := bitio.Read(written(t, bits, lits("hi"), kind, last))
				if r.Bits(bits) != 1<<bits-1 || (r.Bits(1) == 1) != last || r.Bits(2) != uint32(kind) {
					t.Errorf("kind %d, last %v, behind %d bits", kind, last, bits)
				}
			}
		}
	}
}

func TestWriteByHand(t *testing.T) {
	for _, c := range []struct {
		l    []api.Token
		kind int
		last bool
		want string
	}{
		{nil, fixed, true, "\x03\x00"}, {nil, fixed, false, "\x02\x00"}, {nil, stored, true, "\x01\x00\x00\xff\xff"}, {nil, stored, false, "\x00\x00\x00\xff\xff"}, {lits("hi"), stored, true, "\x01\x02\x00\xfd\xffhi"},
		{lits("a"), fixed, true, "\x4b\x04\x00"},
	} {
		if s := written(t, 0, c.l, c.kind, c.last); s != c.want {
			t.Errorf("%v by kind %d: %x, not %x", c.l, c.kind, s, c.want)
		}
	}
}

func TestOwnLengthsAreThoseOfThePlan(t *testing.T) {
	for _, l := range samples() {
		p := block.Made(l)
		r := bitio.Read(written(t, 0, l, own, true))
		r.Bits(3)
		ahead := r.Left()
		first, second, why := inflate.Tables(r)
		if why != api.OK || !slices.Equal(first, p.Lits) || !slices.Equal(second, p.Backs) {
			t.Fatal(why, first, second)
		}
		_, _, bits := counted(l)
		a, b, _ := counted(l)
		if plan := block.Sizes(l)[own] - 3 - bits - cost(a, p.Lits) - cost(b, p.Backs); ahead-r.Left() != plan {
			t.Fatalf("%d bits, not %d", ahead-r.Left(), plan)
		}
	}
}

// refuses fails if anything is written.
func refuses(t *testing.T, l []api.Token, kind int) {
	t.Helper()
	var w bitio.Writer
	w.Bits(5, 3)
	if block.Write(&w, l, kind, true) || w.Len() != 3 || w.Bytes() != "\x05" {
		t.Errorf("%d tokens by kind %d: %d bits", len(l), kind, w.Len())
	}
}

func TestKindsThatAreNone(t *testing.T) {
	for _, kind := range []int{-1, 3, 4, -3, math.MaxInt, math.MinInt} {
		refuses(t, lits("a"), kind)
		refuses(t, nil, kind)
	}
}

func TestStoredWithCopies(t *testing.T) {
	refuses(t, append(lits("abc"), again(3, 3)), stored)
	refuses(t, []api.Token{again(3, 3), {Byte: 1}}, stored)
}

func TestStoredTooLong(t *testing.T) {
	l := make([]api.Token, 65536)
	for i := range l {
		l[i].Byte = byte(i * i >> 3)
	}
	refuses(t, l, stored)
	s := written(t, 0, l[1:], stored, true)
	got, err := io.ReadAll(flate.NewReader(strings.NewReader(s)))
	if err != nil || string(got) != expanded("", l[1:]) {
		t.Error(err, len(got))
	}
	s = written(t, 0, l, own, true)
	if got, err = io.ReadAll(flate.NewReader(strings.NewReader(s))); err != nil || string(got) != expanded("", l) {
		t.Error(err, len(got))
	}
}

// wrong is tokens that may stand nowhere.
func wrong() []api.Token {
	return []api.Token{
		{Long: 1, Back: 1}, {Long: 2, Back: 1}, {Long: 259, Back: 1}, {Long: 3}, {Long: 3, Back: -1}, {Long: 3, Back: 32769}, {Long: -1, Back: 1}, {Byte: 1, Long: 3, Back: 1}, {Byte: 1, Back: 1}, {Back: 1},
		{Long: math.MaxInt, Back: math.MaxInt}, {Long: math.MinInt, Back: math.MinInt}, {Byte: 255, Long: math.MaxInt}, {Byte: 255, Back: math.MinInt},
	}
}

func TestWrongTokensAreNotWritten(t *testing.T) {
	for _, x := range wrong() {
		for kind := stored; kind <= own; kind++ {
			refuses(t, []api.Token{x}, kind)
			refuses(t, append(lits("ab"), x, api.Token{Byte: 'c'}), kind)
		}
	}
}

func TestLastOneOnlyEnds(t *testing.T) {
	var w bitio.Writer
	for i := range 3 {
		if !block.Write(&w, lits("abc"), i, i == 1) {
			t.Fatal(i)
		}
	}
	s, used, why := inflate.Of(w.Bytes(), 100)
	if s != "abcabc" || why != api.OK || used >= len(w.Bytes()) {
		t.Error(s, used, why)
	}
}

// P1

func TestAllCallsEnd(t *testing.T) {
	rows := samples()[:20]
	for _, x := range wrong() {
		rows = append(rows, []api.Token{x}, append(lits("abc"), x, x))
	}
	lengths := [][]int{nil, {}, {-1, 99, math.MaxInt, math.MinInt}, make([]int, 5000), slices.Repeat([]int{math.MaxInt}, 400)}
	for _, l := range rows {
		block.Many(l)
		block.Made(l)
		block.Sizes(l)
		for _, a := range lengths {
			block.Body(l, a, a)
			block.Body(l, a, nil)
		}
		for _, kind := range []int{-1, stored, fixed, own, 3, math.MinInt, math.MaxInt} {
			block.Write(nil, l, kind, true)
			block.Write(new(bitio.Writer), l, kind, false)
		}
	}
}

// Rules 4 and 6

func TestWhatIsHandedInStays(t *testing.T) {
	spare := append(make([]api.Token, 0, 100), lits("abcabc")...)
	spare = append(spare, again(3, 3))
	whole := spare[:cap(spare)]
	was := slices.Clone(whole)
	a, b := append(make([]int, 0, 400), 1, 2), append(make([]int, 0, 400), 3)
	block.Many(spare)
	block.Made(spare)
	block.Sizes(spare)
	block.Body(spare, a, b)
	for kind := stored; kind <= own; kind++ {
		block.Write(new(bitio.Writer), spare, kind, true)
	}
	if !slices.Equal(whole, was) || !slices.Equal(a, []int{1, 2}) || slices.Max(a[2:400]) != 0 || slices.Max(b[1:400]) != 0 {
		t.Error("changed")
	}
}

func TestAnswersAreNew(t *testing.T) {
	l := samples()[len(samples())-1]
	p, q := block.Made(l), block.Made(l)
	for _, row := range [][]int{p.Lits, p.Backs, p.Lens} {
		for _, row := range [][]int{row, row[len(row):cap(row)]} {
			for i := range row {
				row[i] = 99
			}
		}
		if s := block.Made(l); !reflect.DeepEqual(s, q) {
			t.Error("kept")
		}
	}
	p = block.Made(l)
	full := p.Lits[:cap(p.Lits)]
	for i := range full {
		full[i] = 99
	}
	if !slices.Equal(p.Backs, q.Backs) || !slices.Equal(p.Lens, q.Lens) || !slices.Equal(p.Steps, q.Steps) {
		t.Error("shared")
	}
	first, second := block.Many(l)
	first = append(first, 99)
	first[0] = 99
	if _, again := block.Many(l); !slices.Equal(second, again) {
		t.Error("shared")
	}
}
