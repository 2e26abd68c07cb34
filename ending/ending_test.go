package ending_test

import (
	"math"
	"math/rand"
	"strings"
	"testing"

	"swingle/ending"
	"swingle/field"
)

const most = 1<<31 - 1

// wrongs is ends of which one field is out of its bounds.
func wrongs() []ending.End {
	return []ending.End{
		{Many: -1}, {Size: -1}, {At: -1}, {Many: 65536}, {Size: most + 1}, {At: most + 1},
		{Many: math.MinInt}, {Size: math.MinInt}, {At: math.MinInt}, {Many: math.MaxInt}, {Size: math.MaxInt}, {At: math.MaxInt},
	}
}

// laid is an end's bytes without the remark's.
func laid(e ending.End) string {
	return "PK\x05\x06\x00\x00\x00\x00" + field.Put(uint64(e.Many), 2) + field.Put(uint64(e.Many), 2) +
		field.Put(uint64(e.Size), 4) + field.Put(uint64(e.At), 4) + field.Put(uint64(e.Remark), 2)
}

// P21.1

func TestRight(t *testing.T) {
	for _, e := range []ending.End{{}, {65535, most, most, 65535}, {1, 2, 3, 4}} {
		if !ending.Right(e) {
			t.Error(e)
		}
	}
	for _, e := range append(wrongs(), ending.End{Remark: -1}, ending.End{Remark: 65536}, ending.End{Remark: math.MinInt}, ending.End{Remark: math.MaxInt}) {
		if ending.Right(e) {
			t.Error(e)
		}
	}
}

func TestWrite(t *testing.T) {
	if ending.Size != 22 || len(ending.Write(ending.End{}, "")) != 22 {
		t.Error("its size")
	}
	for _, c := range []struct {
		e      ending.End
		remark string
		want   string
	}{
		{ending.End{}, "", "PK\x05\x06" + strings.Repeat("\x00", 18)},
		{ending.End{0x0102, 0x03040506, 0x0708090a, 3}, "abc", "PK\x05\x06\x00\x00\x00\x00\x02\x01\x02\x01\x06\x05\x04\x03\x0a\x09\x08\x07\x03\x00abc"},
		{ending.End{Many: 1}, "abc", "PK\x05\x06\x00\x00\x00\x00\x01\x00\x01\x00" + strings.Repeat("\x00", 8) + "\x03\x00abc"},
		{ending.End{Remark: 9}, "", "PK\x05\x06" + strings.Repeat("\x00", 18)},
		{ending.End{65535, most, most, 65535}, strings.Repeat("r", 65535), "PK\x05\x06\x00\x00\x00\x00\xff\xff\xff\xff\xff\xff\xff\x7f\xff\xff\xff\x7f\xff\xff" + strings.Repeat("r", 65535)},
	} {
		if s := ending.Write(c.e, c.remark); s != c.want {
			t.Errorf("%v: %d bytes, not the %d", c.e, len(s), len(c.want))
		}
	}
}

func TestWriteRefuses(t *testing.T) {
	for _, e := range wrongs() {
		if s := ending.Write(e, ""); s != "" {
			t.Errorf("%v: %q", e, s)
		}
	}
	for _, long := range []int{65536, 65537, 131072} {
		if s := ending.Write(ending.End{}, strings.Repeat("r", long)); s != "" {
			t.Errorf("a remark of %d: %d bytes", long, len(s))
		}
	}
}

// P21.2

func TestRead(t *testing.T) {
	for _, e := range []ending.End{{}, {1, 2, 3, 0}, {65535, most, most, 65535}, {7, 0, most, 5}} {
		for _, ahead := range []string{"", "abc", strings.Repeat("PK\x05\x06", 9)} {
			s := ahead + laid(e) + strings.Repeat("r", e.Remark)
			if got, ok := ending.Read(s, len(ahead)); !ok || got != e {
				t.Errorf("%v, %v, not %v", got, ok, e)
			}
		}
	}
}

func TestReadRefuses(t *testing.T) {
	fine := laid(ending.End{1, 2, 3, 4}) + "rrrr"
	refuses := func(s string, at int) {
		t.Helper()
		if e, ok := ending.Read(s, at); ok || e != (ending.End{}) {
			t.Errorf("%q at %d: %v, %v", s, at, e, ok)
		}
	}
	for _, at := range []int{-1, 1, 4, len(fine), len(fine) + 1, math.MinInt, math.MaxInt} {
		refuses(fine, at)
	}
	for i := range fine {
		refuses(fine[:i], 0)
	}
	refuses(fine+"r", 0)
	// Each byte of the sign, of the noughts, of what comes twice, and of how long the remark is, counts.
	for _, i := range []int{0, 1, 2, 3, 4, 5, 6, 7, 8, 9, 10, 11, 20, 21} {
		b := []byte(fine)
		b[i] ^= 0x80
		refuses(string(b), 0)
	}
	// Size and At are below 2^31.
	for _, i := range []int{15, 19} {
		b := []byte(fine)
		b[i] |= 0x80
		refuses(string(b), 0)
	}
}

func TestFind(t *testing.T) {
	one, two := ending.End{Many: 1}, ending.End{2, 3, 4, 5}
	for _, c := range []struct {
		s    string
		e    ending.End
		at   int
		name string
	}{
		{laid(one), one, 0, "alone"},
		{"abc" + laid(one), one, 3, "behind something"},
		{"abc" + laid(two) + "12345", two, 3, "with a remark"},
		{laid(one) + laid(two) + "12345", two, 22, "the last one"},
		{laid(ending.End{1, 2, 3, 22}) + laid(one), one, 22, "in the remark of another one"},
		{laid(two) + "PK\x05\x06!", two, 0, "a sign in the remark"},
		{"abc" + laid(ending.End{Remark: 65535}) + strings.Repeat("r", 65535), ending.End{Remark: 65535}, 3, "as far as may be"},
	} {
		if e, at, ok := ending.Find(c.s); !ok || e != c.e || at != c.at {
			t.Errorf("%s: %v at %d, %v", c.name, e, at, ok)
		}
	}
}

func TestFindOfNone(t *testing.T) {
	fine := laid(ending.End{})
	for _, s := range []string{"", "PK", fine[:21], fine + "x", fine[1:], strings.Repeat("PK\x05\x06", 100), fine + strings.Repeat("r", 65536), laid(ending.End{Remark: 65535}) + strings.Repeat("r", 65536)} {
		if e, at, ok := ending.Find(s); ok || at != 0 || e != (ending.End{}) {
			t.Errorf("%d bytes: %v at %d, %v", len(s), e, at, ok)
		}
	}
}

// P21.3

func TestFindOfWhatWasWrittenBehind(t *testing.T) {
	dice := rand.New(rand.NewSource(21))
	for range 2000 {
		e := ending.End{Many: dice.Intn(65536), Size: dice.Intn(1 << 31), At: dice.Intn(1 << 31)}
		remark := strings.Repeat("remark", 20)[:dice.Intn(100)]
		ahead := strings.Repeat("PK\x05\x06 \x00\x00", 20)[:dice.Intn(100)]
		s := ending.Write(e, remark)
		if strings.Count(s, "P") > 1 {
			continue
		}
		e.Remark = len(remark)
		if got, at, ok := ending.Find(ahead + s); !ok || got != e || at != len(ahead) {
			t.Fatalf("%v at %d, %v; not %v at %d", got, at, ok, e, len(ahead))
		}
		if got, ok := ending.Read(ahead+s, len(ahead)); !ok || got != e {
			t.Fatalf("%v, %v", got, ok)
		}
	}
}
