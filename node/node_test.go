package node_test

import (
	"hash/crc32"
	"math"
	"math/rand"
	"strings"
	"testing"

	"swingle/api"
	"swingle/node"
)

const (
	begin = 0x210000 // 1980-01-01 00:00:00
	later = 46<<25 | 11<<21 | 20<<16 | 17<<11 | 45<<5 | 29
	end   = 127<<25 | 12<<21 | 31<<16 | 23<<11 | 59<<5 | 29
)

// wrongTimes is times that dos tells aren't right.
func wrongTimes() []uint32 {
	return []uint32{0, 1, math.MaxUint32, begin - 1, begin + 30, begin + 24<<11}
}

func wrongModes() []int { return []int{-1, 512, 513, 0o1000, math.MinInt, math.MaxInt} }

func wrongKinds() []int { return []int{-1, 3, 4, math.MinInt, math.MaxInt} }

func file(mode int, time uint32, data string) api.Node {
	return api.Node{Kind: api.File, Mode: mode, Time: time, Data: data}
}

func dir(mode int) api.Node { return api.Node{Kind: api.Dir, Mode: mode} }

func rightNodes() []api.Node {
	return []api.Node{
		{}, dir(0), dir(0o755), dir(0o777), file(0, begin, ""), file(0o777, end, "a"), file(0o644, later, "\x00\xff\x80"),
		file(0o600, later, strings.Repeat("x", api.MaxData)), file(0o111, begin, strings.Repeat("swingle", 100)),
	}
}

// P14.1

func TestRight(t *testing.T) {
	for _, n := range rightNodes() {
		if why := node.Right(n); why != api.OK {
			t.Errorf("%d, %o, %x, %d bytes: %d", n.Kind, n.Mode, n.Time, len(n.Data), why)
		}
	}
}

func TestRightTellsWhy(t *testing.T) {
	long := strings.Repeat("x", api.MaxData+1)
	wrong := func(want api.Errno, n api.Node) {
		t.Helper()
		if why := node.Right(n); why != want {
			t.Errorf("%d, %d, %x, %d bytes: %d, not %d", n.Kind, n.Mode, n.Time, len(n.Data), why, want)
		}
	}
	for _, kind := range wrongKinds() {
		wrong(api.ErrKind, api.Node{Kind: kind})
	}
	wrong(api.ErrArg, api.Node{Mode: 1})
	wrong(api.ErrArg, api.Node{Time: begin})
	wrong(api.ErrArg, api.Node{Data: "a"})
	wrong(api.ErrArg, api.Node{Kind: api.Dir, Data: "a"})
	wrong(api.ErrArg, api.Node{Kind: api.Dir, Time: begin})
	wrong(api.ErrArg, api.Node{Kind: api.Dir, Time: 1})
	for _, mode := range wrongModes() {
		wrong(api.ErrMode, dir(mode))
		wrong(api.ErrMode, file(mode, begin, ""))
	}
	for _, time := range wrongTimes() {
		wrong(api.ErrTime, file(0, time, ""))
	}
	wrong(api.ErrLong, file(0o777, end, long))
	wrong(api.ErrLong, file(0, begin, long+long))
}

func TestRightTellsTheFirst(t *testing.T) {
	long := strings.Repeat("x", api.MaxData+1)
	for _, c := range []struct {
		n    api.Node
		want api.Errno
	}{
		{api.Node{Kind: 3, Mode: -1, Time: 1, Data: long}, api.ErrKind},
		{api.Node{Mode: -1, Time: 1, Data: long}, api.ErrArg},
		{api.Node{Kind: api.Dir, Mode: 512, Data: long}, api.ErrArg},
		{api.Node{Kind: api.Dir, Mode: 512, Time: 1}, api.ErrArg},
		{api.Node{Mode: 512}, api.ErrArg},
		{file(512, 0, long), api.ErrMode},
		{file(512, begin, long), api.ErrMode},
		{file(511, 0, long), api.ErrTime},
	} {
		if why := node.Right(c.n); why != c.want {
			t.Errorf("%d, %d, %x, %d bytes: %d, not %d", c.n.Kind, c.n.Mode, c.n.Time, len(c.n.Data), why, c.want)
		}
	}
}

func TestPrint(t *testing.T) {
	for _, c := range []struct {
		n    api.Node
		want api.Print
	}{
		{api.Node{}, api.Print{}},
		{dir(0o755), api.Print{Kind: api.Dir, Mode: 0o755}},
		{file(0o644, later, "123456789"), api.Print{Kind: api.File, Mode: 0o644, Time: later, Size: 9, Sum: 0xcbf43926}},
		{file(0, begin, ""), api.Print{Kind: api.File, Time: begin}},
		// Of nodes that aren't right likewise: it is files alone that have a sum.
		{api.Node{Kind: api.Dir, Mode: -5, Time: 7, Data: "abc"}, api.Print{Kind: api.Dir, Mode: -5, Time: 7, Size: 3}},
		{api.Node{Mode: 1, Time: 2, Data: "abc"}, api.Print{Mode: 1, Time: 2, Size: 3}},
		{api.Node{Kind: 9, Mode: 1 << 20, Time: 2, Data: "abcd"}, api.Print{Kind: 9, Mode: 1 << 20, Time: 2, Size: 4}},
		{api.Node{Kind: api.File, Mode: -1, Data: "123456789"}, api.Print{Kind: api.File, Mode: -1, Size: 9, Sum: 0xcbf43926}},
	} {
		if got := node.Print(c.n); got != c.want {
			t.Errorf("%v: %v, not %v", c.n, got, c.want)
		}
	}
	for _, n := range rightNodes() {
		if p := node.Print(n); n.Kind == api.File && p.Sum != crc32.ChecksumIEEE([]byte(n.Data)) {
			t.Errorf("%d bytes: %x", len(n.Data), p.Sum)
		}
	}
}

// P14.2

// others is nodes of which each differs from file(0o644, later, "123456789") in one thing.
func others() []api.Node {
	return []api.Node{
		{Kind: api.Dir, Mode: 0o644, Time: later, Data: "123456789"},
		file(0o645, later, "123456789"), file(0o644, later-1, "123456789"), file(0o644, later, "12345678"), file(0o644, later, "123456780"), file(0o644, later, ""),
	}
}

func TestSameAndWhole(t *testing.T) {
	n := file(0o644, later, "123456789")
	if m := file(0o644, later, "12345"+"6789"); !node.Same(n, m) || !node.Whole(n, m) {
		t.Error("it isn't itself")
	}
	for _, m := range others() {
		if node.Same(n, m) || node.Same(m, n) || node.Whole(n, m) || node.Whole(m, n) {
			t.Errorf("%v is it", m)
		}
	}
	for _, m := range rightNodes() {
		for _, o := range rightNodes() {
			if node.Whole(m, o) != (m == o) || node.Same(m, o) != (node.Print(m) == node.Print(o)) {
				t.Errorf("%v and %v", node.Print(m), node.Print(o))
			}
		}
	}
}

func TestSameLooksAtPrintsAlone(t *testing.T) {
	// Both have the CRC-32 4ddb0c25, as is well known.
	a, b := file(0, begin, "plumless"), file(0, begin, "buckeroo")
	if !node.Same(a, b) || node.Whole(a, b) {
		t.Error("of one sum", node.Print(a), node.Print(b))
	}
	// A directory's bytes have no sum.
	c, d := api.Node{Kind: api.Dir, Data: "ab"}, api.Node{Kind: api.Dir, Data: "cd"}
	if !node.Same(c, d) || node.Whole(c, d) || node.Same(c, api.Node{Kind: api.Dir, Data: "abc"}) {
		t.Error("of directories")
	}
}

func finePrints() []api.Print {
	return []api.Print{
		{}, {Kind: api.Dir}, {Kind: api.Dir, Mode: 0o777}, {Kind: api.Dir, Mode: 0o750},
		{Kind: api.File, Time: begin}, {Kind: api.File, Mode: 0o777, Time: end, Size: api.MaxData, Sum: math.MaxUint32},
		{Kind: api.File, Mode: 0o640, Time: later, Size: 1}, {Kind: api.File, Mode: 1, Time: later, Size: 1, Sum: 1}, {Kind: api.File, Time: begin, Size: 64999, Sum: 0xabc},
	}
}

func wrongPrints() []api.Print {
	l := []api.Print{
		{Mode: 1}, {Time: begin}, {Size: 1}, {Sum: 1}, {Size: -1}, {Mode: -1},
		{Kind: api.Dir, Time: begin}, {Kind: api.Dir, Size: 1}, {Kind: api.Dir, Sum: 1}, {Kind: api.Dir, Size: -1},
		{Kind: api.File, Time: begin, Sum: 1}, {Kind: api.File, Time: begin, Sum: math.MaxUint32},
		{Kind: api.File, Time: begin, Size: -1}, {Kind: api.File, Time: begin, Size: api.MaxData + 1}, {Kind: api.File, Time: begin, Size: math.MinInt}, {Kind: api.File, Time: begin, Size: math.MaxInt},
	}
	for _, mode := range wrongModes() {
		l = append(l, api.Print{Kind: api.Dir, Mode: mode}, api.Print{Kind: api.File, Mode: mode, Time: begin})
	}
	for _, time := range wrongTimes() {
		l = append(l, api.Print{Kind: api.File, Time: time})
	}
	for _, kind := range wrongKinds() {
		l = append(l, api.Print{Kind: kind}, api.Print{Kind: kind, Time: begin})
	}
	return l
}

func TestFine(t *testing.T) {
	for _, p := range finePrints() {
		if !node.Fine(p) {
			t.Errorf("%v isn't fine", p)
		}
	}
	for _, p := range wrongPrints() {
		if node.Fine(p) {
			t.Errorf("%v is fine", p)
		}
	}
}

// P14.3

func TestPerm(t *testing.T) {
	for mode, want := range map[int]string{
		0: "---------", 0o777: "rwxrwxrwx", 0o644: "rw-r--r--", 0o755: "rwxr-xr-x", 0o421: "r---w---x", 0o124: "--x-w-r--",
		0o400: "r--------", 0o200: "-w-------", 0o100: "--x------", 1: "--------x", 2: "-------w-", 4: "------r--", 0o070: "---rwx---",
	} {
		if got := node.Perm(mode); got != want {
			t.Errorf("%o: %q, not %q", mode, got, want)
		}
		if got, ok := node.Mode(want); !ok || got != mode {
			t.Errorf("%q: %o, %v", want, got, ok)
		}
	}
	for _, mode := range wrongModes() {
		if got := node.Perm(mode); got != "" {
			t.Errorf("%d: %q", mode, got)
		}
	}
}

func TestModeOfEachPerm(t *testing.T) {
	had := map[string]int{}
	for mode := range api.MaxMode + 1 {
		s := node.Perm(mode)
		if other, twice := had[s]; twice {
			t.Fatalf("%o and %o have %q", other, mode, s)
		}
		had[s] = mode
		if got, ok := node.Mode(s); !ok || got != mode {
			t.Fatalf("%q: %o, %v, not %o", s, got, ok, mode)
		}
	}
}

func TestModeRefuses(t *testing.T) {
	for _, s := range []string{
		"", "-", "--------", "----------", "rwxrwxrw", "rwxrwxrwxr", "RWXRWXRWX", "rwxrwxrwX", "xwrxwrxwr", "wrxwrxwrx", "r--r--r-r", "1--------", "--- -----",
		"---------\n", " ---------", "rw-r--r--\x00", "\x00\x00\x00\x00\x00\x00\x00\x00\x00", "rwsrwxrwx", "777", "0o777", strings.Repeat("-", 100), "é-------",
	} {
		if got, ok := node.Mode(s); ok || got != 0 {
			t.Errorf("%q: %o, %v", s, got, ok)
		}
	}
}

// texts is texts of prints.
func texts() map[string]api.Print {
	return map[string]api.Print{
		"none":          {},
		"dir ---------": {Kind: api.Dir},
		"dir rwxr-xr-x": {Kind: api.Dir, Mode: 0o755},
		"file rw-r--r-- 2026-11-20 17:45:58 9 cbf43926":     {Kind: api.File, Mode: 0o644, Time: later, Size: 9, Sum: 0xcbf43926},
		"file --------- 1980-01-01 00:00:00 0 00000000":     {Kind: api.File, Time: begin},
		"file rwxrwxrwx 2107-12-31 23:59:58 65000 0000000a": {Kind: api.File, Mode: 0o777, Time: end, Size: 65000, Sum: 10},
		"file --------x 1980-01-01 00:00:00 10 ffffffff":    {Kind: api.File, Mode: 1, Time: begin, Size: 10, Sum: math.MaxUint32},
	}
}

func TestText(t *testing.T) {
	for want, p := range texts() {
		if got := node.Text(p); got != want {
			t.Errorf("%v: %q, not %q", p, got, want)
		}
	}
	for _, p := range wrongPrints() {
		if got := node.Text(p); got != "" {
			t.Errorf("%v: %q", p, got)
		}
	}
}

func TestParse(t *testing.T) {
	for s, want := range texts() {
		if got, ok := node.Parse(s); !ok || got != want {
			t.Errorf("%q: %v, %v, not %v", s, got, ok, want)
		}
	}
	for _, p := range finePrints() {
		if got, ok := node.Parse(node.Text(p)); !ok || got != p {
			t.Errorf("%v: %v, %v", p, got, ok)
		}
	}
}

func TestParseRefuses(t *testing.T) {
	const fine = "file rw-r--r-- 2026-11-20 17:45:58 9 cbf43926"
	l := []string{
		"", " ", "None", "none ", " none", "none none", "none ---------", "nonee", "file", "file ", "dir", "dir ", "Dir ---------", "dir rwx", "dir ----------", "dir  ---------", "dir --------- ", "dir\t---------", "dir --------- 0", "dir wrxwrxwrx", "node ---------",
		"file --------- 1980-01-01 00:00:00 0", "file --------- 1980-01-01 00:00:00 0 00000000 ", "file --------- 1980-01-01 00:00:00 0 00000000 0", "file --------- 1980-01-01 00:00:00 0 00000001",
		"file --------- 1980-01-01  00:00:00 0 00000000", "file  --------- 1980-01-01 00:00:00 0 00000000", " file --------- 1980-01-01 00:00:00 0 00000000",
		"dir --------- 1980-01-01 00:00:00 0 00000000", "file ---------",
		fine + "\n", fine + "\x00", " " + fine, strings.ToUpper(fine), strings.Replace(fine, "cbf43926", "CBF43926", 1),
	}
	for _, c := range [][2]string{
		{" 9 ", " 09 "}, {" 9 ", " +9 "}, {" 9 ", " -9 "}, {" 9 ", "  "}, {" 9 ", " 65001 "}, {" 9 ", " 9.0 "}, {" 9 ", " 0x9 "}, {" 9 ", " 99999999999999999999 "}, {" 9 ", " x "}, {" 9 ", " 9_0 "},
		{"cbf43926", "cbf4392"}, {"cbf43926", "0cbf43926"}, {"cbf43926", "cbf4392g"}, {"cbf43926", "+bf43926"}, {"cbf43926", "0xf43926"}, {"cbf43926", "1cbf43926"}, {"cbf43926", ""}, {"cbf43926", "bf43926"},
		{"2026-11-20", "2026-11-31"}, {"2026-11-20", "1979-11-20"}, {"2026-11-20", "2026-1-20"}, {"17:45:58", "17:45:59"}, {"17:45:58", "24:45:58"}, {"17:45:58", "17:45"}, {"20 17", "20T17"},
		{"rw-r--r--", "rw-r--r-"}, {"rw-r--r--", "420"}, {"rw-r--r--", ""}, {"rw-r--r--", "rw-r--r--x"}, {"file", "dir"}, {"file", "none"}, {"file", "files"},
	} {
		l = append(l, strings.Replace(fine, c[0], c[1], 1))
	}
	for _, s := range l {
		if got, ok := node.Parse(s); ok || got != (api.Print{}) {
			t.Errorf("%q: %v, %v", s, got, ok)
		}
	}
	// Whatever a text is, what is read of it would be written so.
	dice := rand.New(rand.NewSource(14))
	for range 5000 {
		b := []byte(fine)
		for range 1 + dice.Intn(2) {
			b[dice.Intn(len(b))] = "0123456789abcdef-rwx :G"[dice.Intn(23)]
		}
		if p, ok := node.Parse(string(b)); ok != (node.Text(p) == string(b) && p != api.Print{}) {
			t.Fatalf("%q: %v, %v", b, p, ok)
		}
	}
}

// P14.4

func TestThePrintOfANodeThatIsRightIsFine(t *testing.T) {
	dice := rand.New(rand.NewSource(15))
	l := rightNodes()
	for range 3000 {
		l = append(l, api.Node{Kind: dice.Intn(4), Mode: dice.Intn(600) - 20, Time: dice.Uint32() &^ (dice.Uint32() & 0x1f), Data: strings.Repeat("x", dice.Intn(3))})
	}
	many := 0
	for _, n := range l {
		if !node.Whole(n, n) || !node.Same(n, n) {
			t.Fatalf("%v isn't itself", n)
		}
		if node.Right(n) != api.OK {
			continue
		}
		many++
		p := node.Print(n)
		if !node.Fine(p) {
			t.Fatalf("%v has %v, that isn't fine", n, p)
		}
		if back, ok := node.Parse(node.Text(p)); !ok || back != p {
			t.Fatalf("%v: %v, %v", p, back, ok)
		}
	}
	if many < 100 {
		t.Error("too few were right:", many)
	}
}

func TestNodesThatAreWholeAreSame(t *testing.T) {
	l := append(rightNodes(), others()...)
	l = append(l, api.Node{Kind: -7, Mode: -1, Time: 9, Data: "q"})
	for _, a := range l {
		for _, b := range l {
			if node.Whole(a, b) && !node.Same(a, b) {
				t.Errorf("%v", a)
			}
		}
	}
}

// P1

func TestAllCallsEnd(t *testing.T) {
	dice := rand.New(rand.NewSource(16))
	numbers := []int{0, 1, 2, 3, -1, 511, 512, api.MaxData, api.MaxData + 1, math.MinInt, math.MaxInt}
	number := func() int { return numbers[dice.Intn(len(numbers))] }
	for range 3000 {
		b := make([]byte, dice.Intn(40))
		dice.Read(b)
		n := api.Node{Kind: number(), Mode: number(), Time: dice.Uint32(), Data: string(b)}
		p := api.Print{Kind: number(), Mode: number(), Time: dice.Uint32(), Size: number(), Sum: dice.Uint32()}
		if node.Right(n) == api.OK && !node.Fine(node.Print(n)) || (node.Text(p) == "") == node.Fine(p) {
			t.Fatalf("%v, %v", n, p)
		}
		node.Same(n, api.Node{Data: string(b)})
		node.Perm(p.Size)
		if p, ok := node.Parse(string(b)); ok {
			t.Fatalf("%q: %v", b, p)
		}
		if mode, ok := node.Mode(string(b)); ok {
			t.Fatalf("%q: %o", b, mode)
		}
	}
}
