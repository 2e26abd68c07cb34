package dos_test

import (
	"math"
	"math/rand"
	"strings"
	"testing"
	"time"

	"swingle/dos"
)

// laid is a time's bits, without a look at what they say.
func laid(year, month, day, hour, minute, half int) uint32 {
	return uint32(year-1980)<<25 | uint32(month)<<21 | uint32(day)<<16 | uint32(hour)<<11 | uint32(minute)<<5 | uint32(half)
}

const (
	begin = 0x210000
	end   = 127<<25 | 12<<21 | 31<<16 | 23<<11 | 59<<5 | 29
)

// spans is how many seconds there are from the beginning to the end of all times, by the library's calendar.
func spans() int64 {
	return time.Date(2108, 1, 1, 0, 0, 0, 0, time.UTC).Unix() - time.Date(1980, 1, 1, 0, 0, 0, 0, time.UTC).Unix()
}

// P12.1

func TestDays(t *testing.T) {
	for year := 1980; year <= 2107; year++ {
		for month := 1; month <= 12; month++ {
			want := time.Date(year, time.Month(month)+1, 0, 0, 0, 0, 0, time.UTC).Day()
			if n := dos.Days(year, month); n != want {
				t.Errorf("%d-%d has %d days, not %d", year, month, n, want)
			}
		}
	}
	if dos.Days(2100, 2) != 28 || dos.Days(2000, 2) != 29 || dos.Days(2104, 2) != 29 {
		t.Error("February")
	}
}

func TestDaysOfOthers(t *testing.T) {
	for _, year := range []int{1979, 2108, 0, -1, 80, math.MinInt, math.MaxInt} {
		if n := dos.Days(year, 1); n != 0 {
			t.Errorf("year %d: %d", year, n)
		}
	}
	for _, month := range []int{0, 13, -1, math.MinInt, math.MaxInt} {
		if n := dos.Days(2000, month); n != 0 {
			t.Errorf("month %d: %d", month, n)
		}
	}
}

var rightOnes = []uint32{
	begin, end, laid(2000, 2, 29, 0, 0, 0), laid(1999, 4, 30, 23, 59, 29), laid(2100, 2, 28, 12, 30, 15), laid(1980, 12, 31, 1, 2, 3),
}

var wrongOnes = []uint32{
	0, math.MaxUint32,
	laid(2000, 0, 1, 0, 0, 0), laid(2000, 13, 1, 0, 0, 0), laid(2000, 15, 1, 0, 0, 0),
	laid(2000, 1, 0, 0, 0, 0), laid(1999, 2, 29, 0, 0, 0), laid(2100, 2, 29, 0, 0, 0), laid(2000, 2, 30, 0, 0, 0), laid(2000, 4, 31, 0, 0, 0),
	laid(2000, 1, 1, 24, 0, 0), laid(2000, 1, 1, 31, 0, 0), laid(2000, 1, 1, 0, 60, 0), laid(2000, 1, 1, 0, 63, 0),
	laid(2000, 1, 1, 0, 0, 30), laid(2000, 1, 1, 0, 0, 31),
}

func TestRight(t *testing.T) {
	for _, x := range rightOnes {
		if !dos.Right(x) {
			t.Errorf("%x isn't right", x)
		}
	}
	for _, x := range wrongOnes {
		if dos.Right(x) {
			t.Errorf("%x is right", x)
		}
	}
}

// P12.2

func TestOf(t *testing.T) {
	for _, c := range []struct {
		x    dos.Time
		want uint32
	}{
		{dos.Time{Year: 1980, Month: 1, Day: 1}, begin},
		{dos.Time{2107, 12, 31, 23, 59, 58}, end},
		{dos.Time{2000, 2, 29, 13, 7, 42}, laid(2000, 2, 29, 13, 7, 21)},
		{dos.Time{2026, 11, 20, 0, 0, 2}, laid(2026, 11, 20, 0, 0, 1)},
	} {
		if n, ok := dos.Of(c.x); !ok || n != c.want {
			t.Errorf("%v is %x, %v, not %x", c.x, n, ok, c.want)
		}
	}
}

func TestOfRefuses(t *testing.T) {
	fine := dos.Time{Year: 2000, Month: 6, Day: 15, Hour: 12, Minute: 30, Second: 30}
	if _, ok := dos.Of(fine); !ok {
		t.Fatal("what is fine is refused")
	}
	for _, put := range []func(x *dos.Time, n int){
		func(x *dos.Time, n int) { x.Year = n },
		func(x *dos.Time, n int) { x.Month = n },
		func(x *dos.Time, n int) { x.Day = n },
		func(x *dos.Time, n int) { x.Hour = n },
		func(x *dos.Time, n int) { x.Minute = n },
		func(x *dos.Time, n int) { x.Second = n },
	} {
		for _, n := range []int{math.MinInt, math.MinInt + 1, -2, -1, 60, 62, 64, 1979, 2108, 1 << 32, math.MaxInt, math.MaxInt - 1} {
			x := fine
			put(&x, n)
			if got, ok := dos.Of(x); ok || got != 0 {
				t.Errorf("%v is %x, %v", x, got, ok)
			}
		}
	}
	for _, x := range []dos.Time{
		{}, {2000, 0, 1, 0, 0, 0}, {2000, 13, 1, 0, 0, 0}, {2000, 1, 0, 0, 0, 0}, {2000, 6, 31, 0, 0, 0}, {2001, 2, 29, 0, 0, 0},
		{2000, 1, 1, 24, 0, 0}, {2000, 1, 1, 0, 0, 1}, {2000, 1, 1, 0, 0, 59}, {2000, 1, 1, 23, 60, 0}, {2100, 2, 29, 0, 0, 0},
	} {
		if got, ok := dos.Of(x); ok || got != 0 {
			t.Errorf("%v is %x, %v", x, got, ok)
		}
	}
}

func TestSplit(t *testing.T) {
	if x, ok := dos.Split(laid(2026, 11, 20, 17, 45, 29)); !ok || x != (dos.Time{2026, 11, 20, 17, 45, 58}) {
		t.Error(x, ok)
	}
	for _, n := range rightOnes {
		x, ok := dos.Split(n)
		back, fine := dos.Of(x)
		if !ok || !fine || back != n {
			t.Errorf("%x is split to %v, %v", n, x, ok)
		}
	}
	for _, n := range wrongOnes {
		if x, ok := dos.Split(n); ok || x != (dos.Time{}) {
			t.Errorf("%x is split to %v, %v", n, x, ok)
		}
	}
}

// P12.3

func TestSeconds(t *testing.T) {
	for _, c := range []struct {
		t    uint32
		want int64
	}{
		{begin, 0},
		{laid(1980, 1, 1, 0, 0, 1), 2},
		{laid(1980, 1, 1, 0, 1, 0), 60},
		{laid(1980, 1, 1, 1, 0, 0), 3600},
		{laid(1980, 1, 2, 0, 0, 0), 86400},
		{laid(1980, 3, 1, 0, 0, 0), 60 * 86400},
		{laid(1981, 1, 1, 0, 0, 0), 366 * 86400},
		{laid(1982, 1, 1, 0, 0, 0), 731 * 86400},
		{end, spans() - 2},
	} {
		if n, ok := dos.Seconds(c.t); !ok || n != c.want {
			t.Errorf("%x: %d, %v, not %d", c.t, n, ok, c.want)
		}
	}
	for _, x := range wrongOnes {
		if n, ok := dos.Seconds(x); ok || n != 0 {
			t.Errorf("%x: %d, %v", x, n, ok)
		}
	}
}

func TestFrom(t *testing.T) {
	for _, c := range []struct {
		n    int64
		want uint32
	}{
		{0, begin}, {1, begin}, {2, begin + 1}, {3, begin + 1}, {59, begin + 29}, {61, laid(1980, 1, 1, 0, 1, 0)},
		{86399, laid(1980, 1, 1, 23, 59, 29)}, {86400, laid(1980, 1, 2, 0, 0, 0)},
		{366*86400 - 1, laid(1980, 12, 31, 23, 59, 29)}, {366 * 86400, laid(1981, 1, 1, 0, 0, 0)},
		{spans() - 1, end}, {spans() - 2, end}, {spans() - 3, end - 1},
	} {
		if n, ok := dos.From(c.n); !ok || n != c.want {
			t.Errorf("%d: %x, %v, not %x", c.n, n, ok, c.want)
		}
	}
	for _, n := range []int64{-1, -2, math.MinInt64, spans(), spans() + 1, math.MaxInt64} {
		if x, ok := dos.From(n); ok || x != 0 {
			t.Errorf("%d: %x, %v", n, x, ok)
		}
	}
}

func TestFromGoesAsTheCalendar(t *testing.T) {
	first := time.Date(1980, 1, 1, 0, 0, 0, 0, time.UTC)
	for n := int64(0); n < spans(); n += 86400/2 + 3601 {
		day := first.Add(time.Duration(n) * time.Second)
		want := laid(day.Year(), int(day.Month()), day.Day(), day.Hour(), day.Minute(), day.Second()/2)
		if x, ok := dos.From(n); !ok || x != want {
			t.Fatalf("%d: %x, %v, not %x", n, x, ok, want)
		}
		if back, ok := dos.Seconds(want); !ok || back != n/2*2 {
			t.Fatalf("%d: back %d, %v", n, back, ok)
		}
	}
}

// P12.4

func TestText(t *testing.T) {
	for _, c := range []struct {
		t    uint32
		want string
	}{
		{begin, "1980-01-01 00:00:00"},
		{end, "2107-12-31 23:59:58"},
		{laid(2001, 2, 3, 4, 5, 3), "2001-02-03 04:05:06"},
		{laid(2026, 11, 20, 17, 45, 29), "2026-11-20 17:45:58"},
	} {
		if s := dos.Text(c.t); s != c.want {
			t.Errorf("%x: %q, not %q", c.t, s, c.want)
		}
	}
	for _, x := range wrongOnes {
		if s := dos.Text(x); s != "" {
			t.Errorf("%x: %q", x, s)
		}
	}
}

func TestParse(t *testing.T) {
	for _, x := range rightOnes {
		if n, ok := dos.Parse(dos.Text(x)); !ok || n != x {
			t.Errorf("%q: %x, %v", dos.Text(x), n, ok)
		}
	}
}

func TestParseRefuses(t *testing.T) {
	const fine = "2001-02-03 04:05:06"
	l := []string{
		"", "2001", "2001-02-03", fine + " ", " " + fine, fine[1:], fine[:18], "2001-2-3 4:5:6", "02001-02-03 04:05:0",
		"2001-02-03 04:05:07", "2001-02-29 04:05:06", "2001-00-03 04:05:06", "2001-13-03 04:05:06", "2001-02-00 04:05:06",
		"2001-02-03 24:05:06", "2001-02-03 04:60:06", "2001-02-03 04:05:60", "1979-02-03 04:05:06", "2108-02-03 04:05:06", "2100-02-29 00:00:00",
		"2001-+2-03 04:05:06", "2001-02-03 +4:05:06", "2001-02-03 -0:05:06", "2001-02-03 04:05:-0", "+200-02-03 04:05:06", "2001-02-03 04:0x:06", "2001-02-03  4:05:06",
		"2001-02-03T04:05:06", "2001/02/03 04:05:06", "2001-02-03 04.05.06", strings.Repeat("0", 19), strings.Repeat("\x00", 19),
	}
	for i := range fine {
		l = append(l, fine[:i]+"_"+fine[i+1:])
	}
	for _, s := range l {
		if n, ok := dos.Parse(s); ok || n != 0 {
			t.Errorf("%q: %x, %v", s, n, ok)
		}
	}
}

// P12.5

func TestLaterTimesAreGreater(t *testing.T) {
	dice := rand.New(rand.NewSource(12))
	for range 20000 {
		a, b := dice.Int63n(spans())/2*2, dice.Int63n(spans())/2*2
		if dice.Intn(2) == 0 {
			b = min(a+2*dice.Int63n(100), spans()-2)
		}
		x, fineX := dos.From(a)
		y, fineY := dos.From(b)
		if !fineX || !fineY || (a < b) != (x < y) || (a == b) != (x == y) {
			t.Fatalf("%d is %x, %d is %x", a, x, b, y)
		}
		if n, ok := dos.Seconds(x); !ok || n != a {
			t.Fatalf("%d is %x, and back %d", a, x, n)
		}
	}
}

func TestFromOfSecondsIsTheTime(t *testing.T) {
	dice := rand.New(rand.NewSource(13))
	many := 0
	for range 100000 {
		x := dice.Uint32()
		n, ok := dos.Seconds(x)
		if ok != dos.Right(x) {
			t.Fatalf("%x: seconds %v, right %v", x, ok, dos.Right(x))
		}
		if !ok {
			continue
		}
		many++
		if back, fine := dos.From(n); !fine || back != x {
			t.Fatalf("%x: %d, and back %x", x, n, back)
		}
	}
	if many < 1000 {
		t.Error("few were right:", many)
	}
}
