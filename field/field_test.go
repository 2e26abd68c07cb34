package field_test

import (
	"math"
	"math/rand"
	"strings"
	"testing"

	"swingle/field"
)

const number = 0x8877665544332211

const laid = "\x11\x22\x33\x44\x55\x66\x77\x88"

// P1.1

func TestPutLaysTheLowestFirst(t *testing.T) {
	for _, c := range []struct {
		n    uint64
		wide int
		want string
	}{
		{258, 2, "\x02\x01"},
		{258, 1, "\x02"},
		{258, 3, "\x02\x01\x00"},
		{0, 4, "\x00\x00\x00\x00"},
		{number, 0, ""},
		{number, 4, laid[:4]},
		{number, 7, laid[:7]},
		{number, 8, laid},
		{math.MaxUint64, 8, strings.Repeat("\xff", 8)},
	} {
		if s := field.Put(c.n, c.wide); s != c.want {
			t.Errorf("Put(%x, %d) is %q, not %q", c.n, c.wide, s, c.want)
		}
	}
}

func TestPutTakesTheNearerWidth(t *testing.T) {
	for _, wide := range []int{-1, -8, math.MinInt} {
		if s := field.Put(number, wide); s != "" {
			t.Errorf("of width %d: %q", wide, s)
		}
	}
	for _, wide := range []int{9, 64, math.MaxInt} {
		if s := field.Put(number, wide); s != laid {
			t.Errorf("of width %d: %q", wide, s)
		}
	}
}

func TestGetReadsTheFirstBytes(t *testing.T) {
	for _, c := range []struct {
		s    string
		wide int
		want uint64
	}{
		{"\x02\x01\x09", 2, 258},
		{"\x02\x01", 2, 258},
		{"", 0, 0},
		{"\xff", 0, 0},
		{laid, 1, 0x11},
		{laid, 8, number},
		{laid + "x", 8, number},
		{strings.Repeat("\xff", 8), 8, math.MaxUint64},
	} {
		if n, ok := field.Get(c.s, c.wide); !ok || n != c.want {
			t.Errorf("Get(%q, %d) is %x, %v, not %x", c.s, c.wide, n, ok, c.want)
		}
	}
}

func TestGetRefuses(t *testing.T) {
	for _, c := range []struct {
		s    string
		wide int
	}{
		{laid, -1}, {laid, math.MinInt}, {laid + laid, 9}, {laid + laid, 16}, {laid, math.MaxInt},
		{"", 1}, {"\x01", 2}, {laid[:7], 8}, {"", -1}, {"", 9},
	} {
		if n, ok := field.Get(c.s, c.wide); ok || n != 0 {
			t.Errorf("Get(%q, %d) is %x, %v", c.s, c.wide, n, ok)
		}
	}
}

// P1.2

// stands fails if a reader is at another place, or as fine, as it should be.
func stands(t *testing.T, r *field.Reader, at, left int, fine bool) {
	t.Helper()
	if r.At() != at || r.Left() != left || r.Fine() != fine {
		t.Errorf("at %d, left %d, fine %v; not %d, %d, %v", r.At(), r.Left(), r.Fine(), at, left, fine)
	}
}

func TestReaderGoesOn(t *testing.T) {
	r := field.Read("\x02\x01abc\x07\x00\x00\x00z")
	stands(t, r, 0, 10, true)
	if n := r.Num(2); n != 258 {
		t.Error(n)
	}
	stands(t, r, 2, 8, true)
	if s := r.Text(2); s != "ab" {
		t.Error(s)
	}
	stands(t, r, 4, 6, true)
	r.Skip(1)
	stands(t, r, 5, 5, true)
	if n := r.Num(4); n != 7 {
		t.Error(n)
	}
	if n, s := r.Num(0), r.Text(0); n != 0 || s != "" {
		t.Error(n, s)
	}
	r.Skip(0)
	stands(t, r, 9, 1, true)
	if s := r.Text(1); s != "z" {
		t.Error(s)
	}
	stands(t, r, 10, 0, true)
}

func TestReaderOfNothing(t *testing.T) {
	r := field.Read("")
	stands(t, r, 0, 0, true)
	if r.Num(0) != 0 || r.Text(0) != "" {
		t.Error("something in nothing")
	}
	r.Skip(0)
	stands(t, r, 0, 0, true)
	r.Skip(1)
	stands(t, r, 0, 0, false)
}

func TestReaderThatIsNoLongerFineGoesNoFurther(t *testing.T) {
	breaks := map[string]func(r *field.Reader){
		"Num of too few":      func(r *field.Reader) { r.Num(8) },
		"Num below 0":         func(r *field.Reader) { r.Num(-1) },
		"Num of the least":    func(r *field.Reader) { r.Num(math.MinInt) },
		"Num above 8":         func(r *field.Reader) { r.Num(9) },
		"Num of the greatest": func(r *field.Reader) { r.Num(math.MaxInt) },
		"Text of too few":     func(r *field.Reader) { r.Text(8) },
		"Text below 0":        func(r *field.Reader) { r.Text(-1) },
		"Text of the least":   func(r *field.Reader) { r.Text(math.MinInt) },
		"Text of the most":    func(r *field.Reader) { r.Text(math.MaxInt) },
		"Skip of too few":     func(r *field.Reader) { r.Skip(8) },
		"Skip below 0":        func(r *field.Reader) { r.Skip(-1) },
		"Skip of the most":    func(r *field.Reader) { r.Skip(math.MaxInt) },
	}
	for name, done := range breaks {
		t.Run(name, func(t *testing.T) {
			r := field.Read("\x01" + laid[:7])
			r.Skip(1)
			done(r)
			stands(t, r, 1, 7, false)
			if n := r.Num(1); n != 0 {
				t.Error("a number:", n)
			}
			if s := r.Text(1); s != "" {
				t.Error("a text:", s)
			}
			r.Skip(1)
			if r.Num(0) != 0 || r.Text(0) != "" {
				t.Error("something of nothing")
			}
			stands(t, r, 1, 7, false)
		})
	}
}

func TestReaderNumRefusesAWidthAboveEightWhereBytesAreLeft(t *testing.T) {
	r := field.Read(laid + laid)
	if n := r.Num(9); n != 0 {
		t.Error(n)
	}
	stands(t, r, 0, 16, false)
}

func TestReaderTellsNothingWhereItBreaks(t *testing.T) {
	if n := field.Read("\x01\x02").Num(3); n != 0 {
		t.Error(n)
	}
	if s := field.Read("ab").Text(3); s != "" {
		t.Error(s)
	}
}

func TestNilReader(t *testing.T) {
	var r *field.Reader
	if r.Num(2) != 0 || r.Text(2) != "" || r.Num(0) != 0 || r.Text(0) != "" {
		t.Error("something in nil")
	}
	r.Skip(1)
	r.Skip(-1)
	stands(t, r, 0, 0, false)
}

// P1.3

func TestWriterPutsBehind(t *testing.T) {
	var w field.Writer
	if w.Bytes() != "" || w.Len() != 0 {
		t.Error("its zero value has bytes")
	}
	if w.Num(258, 2) != &w || w.Text("ab", "", "c") != &w {
		t.Error("another writer is told")
	}
	if w.Bytes() != "\x02\x01abc" || w.Len() != 5 {
		t.Errorf("%q, %d", w.Bytes(), w.Len())
	}
	before := w.Bytes()
	w.Text().Text("").Num(7, 0).Num(7, -3).Num(number, 12)
	if w.Bytes() != "\x02\x01abc"+laid || w.Len() != 13 {
		t.Errorf("%q, %d", w.Bytes(), w.Len())
	}
	if before != "\x02\x01abc" {
		t.Errorf("what was told is changed: %q", before)
	}
}

func TestWriterLeavesItsTextsAlone(t *testing.T) {
	var w field.Writer
	l := []string{"a", "b", "spare"}
	w.Text(l[:2]...)
	if l[0] != "a" || l[1] != "b" || l[2] != "spare" {
		t.Error(l)
	}
	l[0], l[1] = "x", "y"
	if w.Bytes() != "ab" {
		t.Error(w.Bytes())
	}
}

func TestNilWriter(t *testing.T) {
	var w *field.Writer
	if w.Num(258, 2) != nil || w.Text("a", "b") != nil || w.Text() != nil {
		t.Error("a writer of nil")
	}
	if w.Bytes() != "" || w.Len() != 0 {
		t.Error("bytes of nil")
	}
}

// P1.4

func TestWhatWasWrittenIsRead(t *testing.T) {
	dice := rand.New(rand.NewSource(1))
	for range 300 {
		type part struct {
			n    uint64
			wide int
			text string
		}
		var parts []part
		var w field.Writer
		long := 0
		for range dice.Intn(12) {
			b := make([]byte, dice.Intn(5))
			dice.Read(b)
			p := part{dice.Uint64(), dice.Intn(9), string(b)}
			parts = append(parts, p)
			w.Num(p.n, p.wide).Text(p.text)
			long += p.wide + len(p.text)
		}
		if w.Len() != long || len(w.Bytes()) != long {
			t.Fatal(w.Len(), len(w.Bytes()), long)
		}
		r := field.Read(w.Bytes())
		for _, p := range parts {
			n := p.n
			if p.wide < 8 {
				n &= 1<<(8*p.wide) - 1
			}
			if got := r.Num(p.wide); got != n {
				t.Fatalf("%x was written in %d, %x is read", p.n, p.wide, got)
			}
			if got := r.Text(len(p.text)); got != p.text {
				t.Fatalf("%q was written, %q is read", p.text, got)
			}
		}
		stands(t, r, long, 0, true)
	}
}
