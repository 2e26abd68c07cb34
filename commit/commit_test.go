package commit_test

import (
	"hash/crc32"
	"math"
	"math/rand"
	"slices"
	"strings"
	"testing"

	"swingle/api"
	"swingle/commit"
	"swingle/field"
)

const (
	mostTurn  = 1 << 40
	leastLong = 534
	mostLong  = 4194304
)

func rightMarks() []commit.Mark {
	return []commit.Mark{{0, leastLong}, {0, mostLong}, {mostTurn, leastLong}, {mostTurn, mostLong}, {3, 636}, {0x0102030405, 0x060708}, {1, leastLong + 1}, {mostTurn - 1, mostLong - 1}}
}

func wrongMarks() []commit.Mark {
	return []commit.Mark{
		{}, {-1, 636}, {mostTurn + 1, 636}, {math.MinInt, 636}, {math.MaxInt, 636},
		{0, 0}, {0, -1}, {0, 512}, {0, 22}, {0, leastLong - 1}, {0, mostLong + 1}, {0, math.MinInt}, {0, math.MaxInt}, {-1, -1}, {mostTurn + 1, mostLong + 1},
	}
}

// laid is a mark's sector, without a look at what it says.
func laid(turn, long uint64) string {
	body := "SWINGLE1" + field.Put(turn, 8) + field.Put(long, 8)
	return body + field.Put(uint64(crc32.ChecksumIEEE([]byte(body))), 4) + strings.Repeat("\x00", 484)
}

// P25.1

func TestRight(t *testing.T) {
	for _, m := range rightMarks() {
		if !commit.Right(m) {
			t.Errorf("%v isn't right", m)
		}
	}
	for _, m := range wrongMarks() {
		if commit.Right(m) {
			t.Errorf("%v is right", m)
		}
	}
}

func TestWrite(t *testing.T) {
	for _, m := range rightMarks() {
		if s := commit.Write(m); s != laid(uint64(m.Turn), uint64(m.Long)) || len(s) != api.Sector {
			t.Errorf("%v: %d bytes %q", m, len(s), strings.TrimRight(s, "\x00"))
		}
	}
	if s := commit.Write(commit.Mark{3, 636})[:24]; s != "SWINGLE1\x03\x00\x00\x00\x00\x00\x00\x00\x7c\x02\x00\x00\x00\x00\x00\x00" {
		t.Errorf("%q", s)
	}
	for _, m := range wrongMarks() {
		if s := commit.Write(m); s != "" {
			t.Errorf("%v: %q", m, s)
		}
	}
}

func TestRead(t *testing.T) {
	for _, m := range rightMarks() {
		if got, ok := commit.Read(laid(uint64(m.Turn), uint64(m.Long))); !ok || got != m {
			t.Errorf("%v, %v, not %v", got, ok, m)
		}
	}
	dice := rand.New(rand.NewSource(25))
	for range 500 {
		m := commit.Mark{dice.Intn(mostTurn + 1), leastLong + dice.Intn(mostLong-leastLong+1)}
		if got, ok := commit.Read(commit.Write(m)); !ok || got != m {
			t.Fatalf("%v, %v, not %v", got, ok, m)
		}
	}
}

// refuses fails if a mark is read.
func refuses(t *testing.T, s string) {
	t.Helper()
	if m, ok := commit.Read(s); ok || m != (commit.Mark{}) {
		t.Errorf("%d bytes %q: %v, %v", len(s), strings.TrimRight(s, "\x00"), m, ok)
	}
}

func TestReadRefusesMarksThatAreNotRight(t *testing.T) {
	refuses(t, laid(0, 0))
	for _, turn := range []uint64{mostTurn + 1, 1 << 62, 1 << 63, 1<<63 + 5, math.MaxUint64} {
		refuses(t, laid(turn, 636))
	}
	for _, long := range []uint64{0, 512, leastLong - 1, mostLong + 1, 1<<32 + 636, 1 << 63, 1<<63 + 636, math.MaxUint64} {
		refuses(t, laid(3, long))
	}
}

func TestReadRefusesOtherTexts(t *testing.T) {
	fine := laid(3, 636)
	for n := range fine {
		refuses(t, fine[:n])
	}
	refuses(t, "")
	refuses(t, fine+"\x00")
	refuses(t, fine+fine)
	refuses(t, "\x00"+fine[:511])
	refuses(t, strings.Repeat("\x00", 512))
	refuses(t, strings.ToLower(fine))
	refuses(t, "SWINGLE2"+fine[8:])
	// Its sum would be right.
	body := "swingle1" + fine[8:24]
	refuses(t, body+field.Put(uint64(crc32.ChecksumIEEE([]byte(body))), 4)+fine[28:])
	refuses(t, fine[:511]+"\x01")
	refuses(t, fine[:28]+"\x01"+fine[29:])
	refuses(t, fine[:300]+" "+fine[301:])
	refuses(t, fine[:24]+"\x00\x00\x00\x00"+fine[28:])
}

// P25.2

func TestSectors(t *testing.T) {
	for n, want := range map[int]int{
		0: 0, -1: 0, -512: 0, math.MinInt: 0, 1: 1, 511: 1, 512: 1, 513: 2, 1024: 2, 1025: 3, mostLong: api.MaxSectors,
		1<<40 - 512: 1<<31 - 1, 1<<40 - 511: 1 << 31, 1 << 40: 1 << 31, 1<<40 + 1: 1 << 31, math.MaxInt: 1 << 31,
	} {
		if got := commit.Sectors(n); got != want {
			t.Errorf("%d: %d, not %d", n, got, want)
		}
	}
}

func TestPad(t *testing.T) {
	for n, want := range map[int]int{0: 0, 1: 512, 511: 512, 512: 512, 513: 1024, 1023: 1024, 1024: 1024, 5000: 5120} {
		s := strings.Repeat("swingle", 1000)[:n]
		if got := commit.Pad(s); got != s+strings.Repeat("\x00", want-n) {
			t.Errorf("%d bytes: %d, not %d", n, len(got), want)
		}
	}
}

func TestCut(t *testing.T) {
	for _, n := range []int{0, 1, 511, 512, 513, 1023, 1024, 1025, 5000} {
		s := strings.Repeat("swingle", 1000)[:n]
		l := commit.Cut(s)
		if len(l) != commit.Sectors(n) || strings.Join(l, "") != commit.Pad(s) {
			t.Errorf("%d bytes: %d sectors", n, len(l))
		}
		for _, sector := range l {
			if len(sector) != api.Sector {
				t.Errorf("%d bytes: a sector of %d", n, len(sector))
			}
		}
	}
	a, b := strings.Repeat("a", 512), "b"+strings.Repeat("\x00", 511)
	if l := commit.Cut(a + "b"); !slices.Equal(l, []string{a, b}) {
		t.Errorf("%q", l)
	}
	if l := commit.Cut(commit.Write(commit.Mark{3, 636})); len(l) != 1 || l[0] != laid(3, 636) {
		t.Errorf("%q", l)
	}
}

// P25.3

func TestOfASectorWithOneBitTurnedNothingIsRead(t *testing.T) {
	for _, m := range rightMarks() {
		b := []byte(commit.Write(m))
		for bit := range len(b) * 8 {
			b[bit/8] ^= 1 << (bit % 8)
			if got, ok := commit.Read(string(b)); ok || got != (commit.Mark{}) {
				t.Fatalf("%v with bit %d turned: %v, %v", m, bit, got, ok)
			}
			b[bit/8] ^= 1 << (bit % 8)
		}
		if got, ok := commit.Read(string(b)); !ok || got != m {
			t.Fatalf("%v as it was: %v, %v", m, got, ok)
		}
	}
}

// P1

func TestAllCallsEnd(t *testing.T) {
	dice := rand.New(rand.NewSource(26))
	for range 2000 {
		b := make([]byte, []int{0, 7, 24, 511, 512, 513, 2000}[dice.Intn(7)])
		dice.Read(b)
		if dice.Intn(2) == 0 {
			copy(b, "SWINGLE1")
		}
		refuses(t, string(b))
		if l := commit.Cut(string(b)); len(l) != commit.Sectors(len(b)) {
			t.Fatalf("%d bytes: %d sectors", len(b), len(l))
		}
		m := commit.Mark{Turn: int(dice.Uint64()), Long: int(dice.Uint64())}
		if (commit.Write(m) == "") == commit.Right(m) {
			t.Fatal(m)
		}
	}
}
