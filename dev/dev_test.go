package dev_test

import (
	"math"
	"math/rand"
	"slices"
	"strings"
	"testing"

	"swingle/api"
	"swingle/dev"
)

// full is a sector that is full of a letter.
func full(letter byte) string { return strings.Repeat(string([]byte{letter}), api.Sector) }

var blank = full(0)

// written is a device on which letters were written, at the places of them.
func written(t *testing.T, sectors int, letters string) *dev.Dev {
	t.Helper()
	d := dev.New(sectors)
	for at := range len(letters) {
		if letters[at] != ' ' {
			tells(t, d.Write(at, full(letters[at])), api.OK)
		}
	}
	return d
}

func tells(t *testing.T, got, want api.Errno) {
	t.Helper()
	if got != want {
		t.Errorf("%d is told, not %d", got, want)
	}
}

// reads is the letters of all sectors, a blank one as a dot.
func reads(d *dev.Dev) string {
	var b strings.Builder
	for at := range d.Size() {
		s := d.Read(at)
		switch {
		case len(s) != api.Sector || s != full(s[0]):
			b.WriteByte('?')
		case s[0] == 0:
			b.WriteByte('.')
		default:
			b.WriteByte(s[0])
		}
	}
	return b.String()
}

func has(t *testing.T, d *dev.Dev, want string, pending, ops int) {
	t.Helper()
	if got := reads(d); got != want || d.Pending() != pending || d.Ops() != ops {
		t.Errorf("%q, %d pending, %d ops; not %q, %d, %d", got, d.Pending(), d.Ops(), want, pending, ops)
	}
}

// P17.1

func TestNewIsBlank(t *testing.T) {
	for _, c := range [][2]int{{0, 0}, {1, 1}, {7, 7}, {-1, 0}, {math.MinInt, 0}, {8191, 8191}, {8192, 8192}, {8193, 8192}, {math.MaxInt, 8192}} {
		d := dev.New(c[0])
		if d == nil || d.Size() != c[1] {
			t.Fatal(c)
		}
		for _, at := range []int{0, c[1] - 1} {
			if c[1] > 0 && d.Read(at) != blank {
				t.Error("not blank", at)
			}
		}
		if d.Off() || d.Pending() != 0 || d.Ops() != 0 {
			t.Error("not as at first")
		}
	}
}

func TestReadTellsWhatWasWrittenLast(t *testing.T) {
	d := dev.New(3)
	mixed := strings.Repeat("0123456789abcdef", 32)
	tells(t, d.Write(1, mixed), api.OK)
	if d.Read(1) != mixed || d.Read(0) != blank || d.Read(2) != blank {
		t.Error("another one")
	}
	tells(t, d.Write(1, full('b')), api.OK)
	has(t, d, ".b.", 2, 2)
	tells(t, d.Flush(), api.OK)
	has(t, d, ".b.", 0, 3)
	tells(t, d.Write(1, full('c')), api.OK)
	has(t, d, ".c.", 1, 4)
}

func TestReadOfAPlaceThatThereIsnt(t *testing.T) {
	d := written(t, 2, "ab")
	for _, at := range []int{-1, 2, 3, math.MinInt, math.MaxInt} {
		if s := d.Read(at); s != "" {
			t.Errorf("at %d: %d bytes", at, len(s))
		}
	}
	if dev.New(0).Read(0) != "" {
		t.Error("a sector of none")
	}
}

// P17.2

func TestWriteRefuses(t *testing.T) {
	d := written(t, 3, "abc")
	for _, at := range []int{-1, 3, math.MinInt, math.MaxInt} {
		tells(t, d.Write(at, blank), api.ErrArg)
	}
	for _, s := range []string{"", "x", blank[1:], blank + "x", blank + blank} {
		tells(t, d.Write(0, s), api.ErrArg)
	}
	has(t, d, "abc", 3, 3)
}

func TestLimit(t *testing.T) {
	d := dev.New(3)
	d.Limit(2)
	tells(t, d.Write(2, full('x')), api.ErrFull)
	tells(t, d.Write(3, full('x')), api.ErrArg)
	tells(t, d.Write(2, "x"), api.ErrArg)
	tells(t, d.Write(1, full('b')), api.OK)
	d.Limit(0)
	tells(t, d.Write(0, full('x')), api.ErrFull)
	tells(t, d.Flush(), api.OK)
	for _, n := range []int{-1, math.MinInt, math.MaxInt, 3} {
		d.Limit(0)
		d.Limit(n)
		tells(t, d.Write(2, full('c')), api.OK)
	}
	has(t, d, ".bc", 4, 6)
}

func TestLimitStaysBehindRestart(t *testing.T) {
	d := dev.New(3)
	d.Limit(1)
	d.Restart()
	tells(t, d.Write(1, full('x')), api.ErrFull)
	tells(t, d.Write(0, full('a')), api.OK)
}

func TestFuse(t *testing.T) {
	d := dev.New(2)
	d.Fuse(2)
	tells(t, d.Write(0, full('a')), api.OK)
	tells(t, d.Flush(), api.OK)
	if d.Off() {
		t.Error("off ahead of it")
	}
	tells(t, d.Write(0, full('b')), api.ErrPower)
	if !d.Off() {
		t.Error("not off")
	}
	has(t, d, "a.", 0, 2)
	tells(t, d.Write(0, full('b')), api.ErrPower)
	tells(t, d.Write(9, "x"), api.ErrPower)
	tells(t, d.Flush(), api.ErrPower)
	has(t, d, "a.", 0, 2)
}

func TestFuseGoesAtFlush(t *testing.T) {
	d := written(t, 2, "ab")
	d.Fuse(0)
	tells(t, d.Flush(), api.ErrPower)
	if !d.Off() {
		t.Error("not off")
	}
	has(t, d, "ab", 2, 2)
	d.Restart()
	has(t, d, "..", 0, 2)
}

func TestFuseCountsWhatTellsOK(t *testing.T) {
	d := dev.New(2)
	d.Limit(1)
	d.Fuse(1)
	tells(t, d.Write(0, "x"), api.ErrArg)
	tells(t, d.Write(5, blank), api.ErrArg)
	tells(t, d.Write(1, blank), api.ErrFull)
	tells(t, d.Write(0, full('a')), api.OK)
	tells(t, d.Write(0, "x"), api.ErrArg)
	tells(t, d.Write(1, blank), api.ErrFull)
	if d.Off() {
		t.Error("a refusal let the fuse go")
	}
	tells(t, d.Write(0, full('b')), api.ErrPower)
	has(t, d, "a.", 1, 1)
}

func TestFuseOfNone(t *testing.T) {
	for _, n := range []int{-1, -5, math.MinInt, math.MaxInt} {
		d := dev.New(1)
		d.Fuse(0)
		d.Fuse(n)
		for range 5 {
			tells(t, d.Write(0, full('a')), api.OK)
			tells(t, d.Flush(), api.OK)
		}
		if d.Off() {
			t.Error("it went:", n)
		}
	}
}

func TestFuseTurnsNothingOn(t *testing.T) {
	d := dev.New(1)
	d.Fuse(0)
	d.Flush()
	d.Fuse(-1)
	if !d.Off() {
		t.Error("on again")
	}
	tells(t, d.Flush(), api.ErrPower)
}

func TestPendingAndOps(t *testing.T) {
	d := dev.New(2)
	tells(t, d.Flush(), api.OK)
	has(t, d, "..", 0, 1)
	for range 3 {
		tells(t, d.Write(0, full('a')), api.OK)
	}
	tells(t, d.Write(1, full('b')), api.OK)
	has(t, d, "ab", 4, 5)
	d.Restart()
	has(t, d, "..", 0, 5)
	tells(t, d.Write(1, full('b')), api.OK)
	tells(t, d.Flush(), api.OK)
	has(t, d, ".b", 0, 7)
}

// P17.3

func TestRestartKeeps(t *testing.T) {
	for _, c := range []struct {
		keep []int
		want string
	}{
		{nil, "s..."},
		{[]int{0}, "s..."},
		{[]int{1}, "aef."},
		{[]int{2}, "b..."},
		{[]int{3}, "cef."},
		{[]int{4}, "s..."},
		{[]int{5}, "aef."},
		{[]int{1, 0}, "a.f."},
		{[]int{0, 1}, "se.."},
		{[]int{0, 0, 1}, "s.f."},
		{[]int{2, 1, 1, 7}, "bef."},
		{[]int{-1}, "s..."},
		{[]int{-1, 1}, "se.."},
		{[]int{math.MinInt, -3, 1}, "s.f."},
		{[]int{math.MaxInt}, "cef."},
	} {
		d := written(t, 4, "s")
		tells(t, d.Flush(), api.OK)
		for _, x := range []struct {
			at     int
			letter byte
		}{{2, 'f'}, {0, 'a'}, {1, 'e'}, {0, 'b'}, {0, 'c'}} {
			tells(t, d.Write(x.at, full(x.letter)), api.OK)
		}
		keep := slices.Clone(c.keep)
		d.Restart(keep...)
		has(t, d, c.want, 0, 7)
		if !slices.Equal(keep, c.keep) {
			t.Error("what was handed in is changed")
		}
		d.Restart(1)
		has(t, d, c.want, 0, 7)
	}
}

func TestRestartTurnsOnAndTakesTheFuseOut(t *testing.T) {
	d := written(t, 1, "a")
	d.Fuse(0)
	tells(t, d.Write(0, full('b')), api.ErrPower)
	d.Restart(1)
	if d.Off() {
		t.Error("off")
	}
	for range 3 {
		tells(t, d.Flush(), api.OK)
	}
	has(t, d, "a", 0, 4)
	d.Fuse(5)
	d.Restart()
	for range 9 {
		tells(t, d.Flush(), api.OK)
	}
}

func TestClone(t *testing.T) {
	d := written(t, 3, "ab")
	tells(t, d.Flush(), api.OK)
	for _, letter := range "cde" {
		tells(t, d.Write(0, full(byte(letter))), api.OK)
	}
	d.Limit(2)
	d.Fuse(2)
	c := d.Clone()
	if c == d {
		t.Fatal("the same one")
	}
	has(t, c, "eb.", 3, 6)
	tells(t, c.Write(2, blank), api.ErrFull)
	tells(t, c.Write(0, full('x')), api.OK)
	tells(t, d.Write(0, full('y')), api.OK)
	tells(t, d.Write(1, full('z')), api.OK)
	has(t, c, "xb.", 4, 7)
	has(t, d, "yz.", 5, 8)
	tells(t, d.Flush(), api.ErrPower)
	if c.Off() || !d.Off() || !d.Clone().Off() {
		t.Error("off, or not")
	}
	tells(t, c.Flush(), api.OK)
	has(t, d, "yz.", 5, 8)
	d.Restart(4, 1)
	has(t, d, "yz.", 0, 8)
	tells(t, c.Flush(), api.ErrPower)
	c.Restart()
	has(t, c, "xb.", 0, 8)
	has(t, d, "yz.", 0, 8)
}

func TestNil(t *testing.T) {
	var d *dev.Dev
	tells(t, d.Write(0, blank), api.ErrArg)
	tells(t, d.Flush(), api.ErrArg)
	d.Limit(1)
	d.Fuse(1)
	d.Restart(1, 2)
	d.Restart()
	if d.Size() != 0 || d.Read(0) != "" || d.Off() || d.Pending() != 0 || d.Ops() != 0 || d.Clone() != nil {
		t.Error("something of nil")
	}
}

// P17.4, and P3 and P6 of a device

func TestEachSectorIsAsSomeWriteHadIt(t *testing.T) {
	dice := rand.New(rand.NewSource(17))
	for range 300 {
		const sectors = 4
		d := dev.New(sectors)
		may := make([]string, sectors) // the letters that a sector may have behind a crash, the sure one first
		for at := range may {
			may[at] = "."
		}
		d.Fuse(dice.Intn(30))
		for !d.Off() {
			at, letter := dice.Intn(sectors+1), byte('a'+dice.Intn(26))
			if dice.Intn(5) == 0 {
				if d.Flush() == api.OK {
					for at := range may {
						may[at] = may[at][len(may[at])-1:]
					}
				}
			} else if d.Write(at, full(letter)) == api.OK {
				may[at] += string([]byte{letter})
			}
		}
		keep := []int{dice.Intn(9) - 2, dice.Intn(9), dice.Intn(9)}[:dice.Intn(4)]
		d.Restart(keep...)
		for at, letter := range []byte(reads(d)) {
			if !strings.Contains(may[at], string([]byte{letter})) {
				t.Fatalf("sector %d is %q, not one of %q", at, letter, may[at])
			}
		}
		before := reads(d)
		tells(t, d.Flush(), api.OK)
		d.Restart(1, 2, 3)
		if reads(d) != before {
			t.Fatal("what was flushed is gone")
		}
	}
}
