package sum_test

import (
	"hash/crc32"
	"math"
	"math/rand"
	"strings"
	"testing"

	"swingle/sum"
)

// bitwise is a state behind a text, just as P2.1 says it.
func bitwise(state uint32, s string) uint32 {
	for _, b := range []byte(s) {
		for range 8 {
			kept := state&1 ^ uint32(b&1)
			state >>= 1
			if kept == 1 {
				state ^= 0xedb88320
			}
			b >>= 1
		}
	}
	return state
}

// some is texts of several lengths, the same ones each time.
func some() []string {
	dice := rand.New(rand.NewSource(2))
	l := []string{"", "\x00", "\xff", "a", "\x00\x00\x00", "123456789"}
	for _, n := range []int{1, 2, 3, 4, 5, 31, 255, 256, 257, 1000, 65000} {
		b := make([]byte, n)
		dice.Read(b)
		l = append(l, string(b))
	}
	return l
}

func states() []uint32 {
	l := []uint32{0, 1, 2, 0x80000000, 0xedb88320, 0xdeadbeef, math.MaxUint32}
	for i := range 32 {
		l = append(l, 1<<i)
	}
	return l
}

// P2.1

func TestMade(t *testing.T) {
	table := sum.Made()
	for b := range 256 {
		if want := bitwise(0, string([]byte{byte(b)})); table[b] != want {
			t.Fatalf("of %d: %x, not %x", b, table[b], want)
		}
	}
	if table[0] != 0 || table[1] != 0x77073096 || table[128] != 0xedb88320 || table[255] != 0x2d02ef8d {
		t.Error("not the sums that containers bear")
	}
}

func TestMadeIsNewEachTime(t *testing.T) {
	table := sum.Made()
	table[7] = 1
	if sum.Made()[7] != bitwise(0, "\x07") {
		t.Error("a table that was handed out is another one's")
	}
}

func TestBeginAndEnd(t *testing.T) {
	if sum.Begin() != 0xffffffff {
		t.Errorf("%x", sum.Begin())
	}
	for _, s := range states() {
		if sum.End(s) != ^s {
			t.Errorf("End(%x) is %x", s, sum.End(s))
		}
	}
}

// P2.2

func TestStep(t *testing.T) {
	table := sum.Made()
	for _, s := range states() {
		for b := range 256 {
			if got, want := table.Step(s, byte(b)), bitwise(s, string([]byte{byte(b)})); got != want {
				t.Fatalf("Step(%x, %d) is %x, not %x", s, b, got, want)
			}
		}
	}
}

func TestFeed(t *testing.T) {
	table := sum.Made()
	for _, s := range states() {
		for _, text := range some()[:12] {
			if got, want := table.Feed(s, text), bitwise(s, text); got != want {
				t.Fatalf("Feed(%x, %q) is %x, not %x", s, text, got, want)
			}
		}
		if got := table.Feed(s); got != s {
			t.Errorf("of no text %x is %x", s, got)
		}
		if got := table.Feed(s, "", ""); got != s {
			t.Errorf("of empty texts %x is %x", s, got)
		}
	}
	if got, want := table.Feed(5, "ab", "", "cde", "f"), bitwise(5, "abcdef"); got != want {
		t.Errorf("%x, not %x", got, want)
	}
	if table != sum.Made() {
		t.Error("the table is changed")
	}
}

func TestNilTable(t *testing.T) {
	var table *sum.Table
	for _, s := range states() {
		if table.Feed(s, "a", "b") != s || table.Feed(s) != s || table.Step(s, 'a') != s {
			t.Errorf("of nil %x becomes another state", s)
		}
	}
}

func TestOf(t *testing.T) {
	if n := sum.Of("123456789"); n != 0xcbf43926 {
		t.Errorf("%x", n)
	}
	if n := sum.Of(""); n != 0 {
		t.Errorf("of nothing %x", n)
	}
	for _, s := range some() {
		if got, want := sum.Of(s), crc32.ChecksumIEEE([]byte(s)); got != want {
			t.Errorf("of %d bytes %x, not %x", len(s), got, want)
		}
	}
}

func TestNoughtsAreBytes(t *testing.T) {
	zeros := strings.Repeat("\x00", 70000)
	for _, s := range states() {
		for _, n := range []int{0, 1, 2, 3, 4, 5, 7, 8, 31, 32, 33, 255, 256, 1000} {
			if got, want := sum.Noughts(s, n), bitwise(s, zeros[:n]); got != want {
				t.Fatalf("Noughts(%x, %d) is %x, not %x", s, n, got, want)
			}
		}
	}
	if got, want := sum.Noughts(0xdeadbeef, 70000), bitwise(0xdeadbeef, zeros); got != want {
		t.Errorf("%x, not %x", got, want)
	}
}

// far is a state behind 2^k bytes 0, by going twice as far, k times: no byte is counted.
func far(state uint32, k int) uint32 {
	if k == 0 {
		return bitwise(state, "\x00")
	}
	out := uint32(0)
	for i := range 32 {
		if state>>i&1 == 1 {
			out ^= reach(k)[i]
		}
	}
	return out
}

var reached = map[int][]uint32{}

// reach is far, of each bit of a state alone.
func reach(k int) []uint32 {
	if reached[k] == nil {
		var l []uint32
		for i := range 32 {
			l = append(l, far(far(1<<i, k-1), k-1))
		}
		reached[k] = l
	}
	return reached[k]
}

func TestNoughtsGoByPowersOfTwo(t *testing.T) {
	for _, s := range states() {
		for k := range 32 {
			if got, want := sum.Noughts(s, 1<<k), far(s, k); got != want {
				t.Fatalf("Noughts(%x, 2^%d) is %x, not %x", s, k, got, want)
			}
		}
		if got, want := bitwise(sum.Noughts(s, 1<<31-1), "\x00"), far(s, 31); got != want {
			t.Fatalf("one behind 2^31-1 is %x, not %x", got, want)
		}
	}
}

func TestNoughtsTakesTheNearerLength(t *testing.T) {
	most := far(0xdeadbeef, 31)
	for _, n := range []int{1<<31 + 1, 1 << 32, 1<<32 + 5, math.MaxInt} {
		if got := sum.Noughts(0xdeadbeef, n); got != most {
			t.Errorf("of %d: %x, not %x", n, got, most)
		}
	}
	for _, n := range []int{-1, -1 << 31, math.MinInt} {
		if got := sum.Noughts(0xdeadbeef, n); got != 0xdeadbeef {
			t.Errorf("of %d: %x", n, got)
		}
	}
}

// P2.3

func TestJoinTellsTheSumOfBoth(t *testing.T) {
	if n := sum.Join(sum.Of("1234"), sum.Of("56789"), 5); n != 0xcbf43926 {
		t.Errorf("%x", n)
	}
	for _, a := range some() {
		for _, b := range some() {
			if got, want := sum.Join(sum.Of(a), sum.Of(b), len(b)), crc32.ChecksumIEEE([]byte(a+b)); got != want {
				t.Fatalf("of %d and %d bytes: %x, not %x", len(a), len(b), got, want)
			}
		}
	}
}

func TestJoinTakesTheNearerLength(t *testing.T) {
	const a, b = 0x12345678, 0x9abcdef0
	for _, n := range []int{0, -1, math.MinInt} {
		if got := sum.Join(a, b, n); got != a^b {
			t.Errorf("of %d: %x", n, got)
		}
	}
	for _, n := range []int{1 << 31, 1<<31 + 1, 1 << 40, math.MaxInt} {
		if got := sum.Join(a, b, n); got != far(a, 31)^b {
			t.Errorf("of %d: %x", n, got)
		}
	}
}

// P2.4

func TestASumGoesOn(t *testing.T) {
	table := sum.Made()
	for _, s := range some() {
		if len(s) > 1000 {
			continue
		}
		for cut := range len(s) + 1 {
			state := table.Feed(sum.Begin(), s[:cut])
			if got := sum.End(table.Feed(state, s[cut:])); got != sum.Of(s) {
				t.Fatalf("cut at %d of %d: %x, not %x", cut, len(s), got, sum.Of(s))
			}
			if got := sum.Join(sum.Of(s[:cut]), sum.Of(s[cut:]), len(s)-cut); got != sum.Of(s) {
				t.Fatalf("joined at %d of %d: %x, not %x", cut, len(s), got, sum.Of(s))
			}
		}
		state := sum.Begin()
		for i := range len(s) {
			state = table.Step(state, s[i])
		}
		if sum.End(state) != sum.Of(s) {
			t.Fatal("step by step another sum")
		}
	}
}
