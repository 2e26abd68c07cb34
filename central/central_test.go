package central_test

import (
	"archive/zip"
	"bytes"
	"encoding/binary"
	"math"
	"math/rand"
	"slices"
	"strings"
	"testing"

	"swingle/api"
	"swingle/central"
	"swingle/local"
)

const (
	begin = 0x210000 // 1980-01-01 00:00:00
	later = 46<<25 | 11<<21 | 20<<16 | 17<<11 | 45<<5 | 29
	end   = 127<<25 | 12<<21 | 31<<16 | 23<<11 | 59<<5 | 29
	most  = 1<<31 - 1
)

// file is the record of a file that is stored.
func file(path string, time uint32, sum uint32, size int) api.Record {
	return api.Record{Path: path, Kind: api.File, Mode: 0o644, Time: time, Sum: sum, Laid: size, Whole: size, At: 512}
}

func dir(path string) api.Record {
	return api.Record{Path: path, Kind: api.Dir, Mode: 0o755, Time: begin}
}

// with is a record that is changed.
func with(r api.Record, change func(r *api.Record)) api.Record {
	change(&r)
	return r
}

func deflated(r api.Record, laid int) api.Record {
	return with(r, func(r *api.Record) { r.Method, r.Laid = 8, laid })
}

// rights is records that are Right, each with a path of its own.
func rights() []api.Record {
	long := strings.Repeat("directory/", 11) + strings.Repeat("f", 60)
	return []api.Record{
		file("a", begin, 0, 0), file("a/b c.txt", later, 0xcbf43926, 9), file("\u00e9", end, math.MaxUint32, most), file(".swingle", begin, 5, 6), file("a/.swingle", begin, 5, 6),
		deflated(file("d", later, 1, 65000), 2), deflated(file("e", later, 1, 0), 2), deflated(file("f", later, 1, most), most), deflated(file("g", later, 1, 5), 5),
		dir("x"), dir("x/y"), dir("x/.swingle"), file(long, later, 1, 2), dir(long[:len(long)-1]),
		with(file("h", begin, 0, 0), func(r *api.Record) { r.At, r.Mode = most, 0 }), with(file("i", begin, 0, 0), func(r *api.Record) { r.At, r.Mode = 0x12345678, 0o777 }),
		with(dir("z"), func(r *api.Record) { r.At, r.Mode = 512, 0o777 }), with(dir("0"), func(r *api.Record) { r.Mode = 0 }),
	}
}

// wrongs is records that aren't Right.
func wrongs() []api.Record {
	l := []api.Record{{}, dir(".swingle"), file("", begin, 0, 0), file("/a", begin, 0, 0), file("a/", begin, 0, 0), file("a/../b", begin, 0, 0), file("a\x00", begin, 0, 0), dir("a/")}
	for _, change := range []func(r *api.Record){
		func(r *api.Record) { r.Kind = 3 }, func(r *api.Record) { r.Method = 1 }, func(r *api.Record) { r.Laid++ }, func(r *api.Record) { r.Whole = -1 }, func(r *api.Record) { r.At = -1 },
		func(r *api.Record) { r.At = most + 1 }, func(r *api.Record) { r.Mode = 512 }, func(r *api.Record) { r.Mode = -1 }, func(r *api.Record) { r.Time = 0 }, func(r *api.Record) { r.Time = end + 1 },
	} {
		l = append(l, with(file("a", begin, 0, 5), change), with(dir("a"), change))
	}
	return append(l, with(dir("a"), func(r *api.Record) { r.Sum = 1 }), with(dir("a"), func(r *api.Record) { r.Time = later }), with(dir("a"), func(r *api.Record) { r.Method = 8 }))
}

// laid is a record's fields, put one behind the other.
type laid struct {
	Magic                             uint32
	Made, Needs, Flags, Method        uint16
	Low, High                         uint16
	Sum, Laid, Whole                  uint32
	Name, Extra, Remark, Disk, Inside uint16
	Lower, Upper                      uint16
	At                                uint32
}

// fieldsOf is those of a record, by the words of P20.1.
func fieldsOf(r api.Record) laid {
	f := laid{
		Magic: 0x02014b50, Made: 0x314, Needs: 20, Flags: 0x800, Method: uint16(r.Method), Low: uint16(r.Time), High: uint16(r.Time >> 16),
		Sum: r.Sum, Laid: uint32(r.Laid), Whole: uint32(r.Whole), Name: uint16(len(nameOf(r))), Upper: uint16(r.Mode) | 0x8000, At: uint32(r.At),
	}
	if r.Kind == api.Dir {
		f.Upper, f.Lower = uint16(r.Mode)|0x4000, 0x10
	}
	return f
}

func nameOf(r api.Record) string {
	if r.Kind == api.Dir {
		return r.Path + "/"
	}
	return r.Path
}

// bytesOf is fields, and what stands behind them.
func bytesOf(f laid, behind string) string {
	var b bytes.Buffer
	binary.Write(&b, binary.LittleEndian, f)
	return b.String() + behind
}

// changed is the bytes of a record, of which fields were changed.
func changed(r api.Record, change func(f *laid)) string {
	f := fieldsOf(r)
	change(&f)
	return bytesOf(f, nameOf(r))
}

// reads fails if Read tells something else.
func reads(t *testing.T, s string, at int, r api.Record, size int, why api.Errno) {
	t.Helper()
	gotR, gotSize, gotWhy := central.Read(s, at)
	if gotR != r || gotSize != size || gotWhy != why {
		t.Errorf("%.80x at %d: %v, %d, %d; not %v, %d, %d", s, at, gotR, gotSize, gotWhy, r, size, why)
	}
}

// refuses fails if Read tells another error, or anything beside it, alone or with bytes around.
func refuses(t *testing.T, s string, why api.Errno) {
	t.Helper()
	reads(t, s, 0, api.Record{}, 0, why)
	reads(t, "ahead"+s, 5, api.Record{}, 0, why)
	if why != api.ErrEnd {
		reads(t, s+s, 0, api.Record{}, 0, why)
	}
}

// P20.1

func TestSize(t *testing.T) {
	for _, r := range rights() {
		if n := central.Size(r); n != 46+len(nameOf(r)) || n != len(central.Write(r)) {
			t.Errorf("%v: %d", r, n)
		}
	}
	for _, r := range wrongs() {
		if n := central.Size(r); n != 46+len(nameOf(r)) {
			t.Errorf("%v: %d", r, n)
		}
	}
	if central.Fixed != 46 || central.Size(file("a", begin, 0, 0)) != 47 {
		t.Error("a file \"a\"")
	}
}

func TestWrite(t *testing.T) {
	for _, r := range rights() {
		if s := central.Write(r); s != bytesOf(fieldsOf(r), nameOf(r)) {
			t.Errorf("%v: %x", r, s)
		}
	}
	for _, r := range wrongs() {
		if s := central.Write(r); s != "" || local.Right(r) == api.OK {
			t.Errorf("%v: %x", r, s)
		}
	}
	want := "PK\x01\x02\x14\x03\x14\x00\x00\x08\x00\x00\x3d\x8e\x74\x5d\x26\x39\xf4\xcb\x09\x00\x00\x00\x09\x00\x00\x00\x01\x00\x00\x00\x00\x00\x00\x00\x00\x00\x00\x00\xa4\x81\x00\x02\x00\x00a"
	if s := central.Write(with(file("a", later, 0xcbf43926, 9), func(r *api.Record) { r.Time = 0x5d748e3d })); s != want {
		t.Errorf("%x", s)
	}
}

func TestPrint(t *testing.T) {
	want := ""
	for _, r := range rights() {
		want += bytesOf(fieldsOf(r), nameOf(r))
	}
	if s := central.Print(rights()); s != want {
		t.Errorf("%x", s)
	}
	if s := central.Print(nil); s != "" {
		t.Errorf("%x", s)
	}
	if s := central.Print(wrongs()); s != "" {
		t.Errorf("%x", s)
	}
}

// ended is a directory with what ends a container, for another program.
func ended(l []api.Record) []byte {
	s := central.Print(l)
	b := bytes.NewBufferString(s)
	binary.Write(b, binary.LittleEndian, struct {
		Magic                    uint32
		Disk, First, Here, Total uint16
		Size, At                 uint32
		Remark                   uint16
	}{0x06054b50, 0, 0, uint16(len(l)), uint16(len(l)), uint32(len(s)), 0, 0})
	return b.Bytes()
}

func TestAsAnotherProgramReads(t *testing.T) {
	b := ended(rights())
	z, err := zip.NewReader(bytes.NewReader(b), int64(len(b)))
	if err != nil || len(z.File) != len(rights()) {
		t.Fatal(err)
	}
	for i, r := range rights() {
		f := z.File[i]
		if f.Name != nameOf(r) || f.NonUTF8 || f.Method != uint16(r.Method) || f.CRC32 != r.Sum || f.CompressedSize64 != uint64(r.Laid) || f.UncompressedSize64 != uint64(r.Whole) {
			t.Errorf("%v: %v", r, f.FileHeader)
		}
		if f.Mode().Perm() != 0 && int(f.Mode().Perm()) != r.Mode || f.Mode().IsDir() != (r.Kind == api.Dir) || uint32(f.ModifiedDate)<<16|uint32(f.ModifiedTime) != r.Time {
			t.Errorf("%v: %v", r, f.Mode())
		}
	}
}

// P20.2

func TestRead(t *testing.T) {
	for _, r := range rights() {
		s := central.Write(r)
		reads(t, s, 0, r, len(s), api.OK)
		reads(t, s+"behind", 0, r, len(s), api.OK)
		reads(t, "ahead"+s+s, 5, r, len(s), api.OK)
		reads(t, "ahead"+s+s, 5+len(s), r, len(s), api.OK)
	}
}

func TestReadOfWhatIsNotAsked(t *testing.T) {
	for _, r := range rights() {
		size := central.Size(r)
		for _, change := range []func(f *laid){
			func(f *laid) { f.Made, f.Needs = 0, 0 }, func(f *laid) { f.Made, f.Needs = math.MaxUint16, math.MaxUint16 }, func(f *laid) { f.Flags = 0x808 }, func(f *laid) { f.Inside = math.MaxUint16 },
			func(f *laid) { f.Lower = 0 }, func(f *laid) { f.Lower = math.MaxUint16 }, func(f *laid) { f.Upper |= 0x0e00 },
		} {
			reads(t, changed(r, change), 0, r, size, api.OK)
		}
		// What stands behind the name counts to its size.
		for _, c := range [][2]int{{1, 0}, {0, 1}, {3, 4}, {math.MaxUint16, math.MaxUint16}} {
			s := changed(r, func(f *laid) { f.Extra, f.Remark = uint16(c[0]), uint16(c[1]) })
			more := strings.Repeat("x", c[0]+c[1])
			reads(t, s+more, 0, r, size+len(more), api.OK)
			reads(t, s+more+"behind", 0, r, size+len(more), api.OK)
			refuses(t, s+more[1:], api.ErrEnd)
			refuses(t, s, api.ErrEnd)
		}
	}
}

func TestReadEndsTooEarly(t *testing.T) {
	for _, r := range rights() {
		s := central.Write(r)
		for n := range len(s) {
			refuses(t, s[:n], api.ErrEnd)
		}
		for _, at := range []int{-1, math.MinInt, len(s) - 1, len(s), len(s) + 1, math.MaxInt} {
			reads(t, s, at, api.Record{}, 0, api.ErrEnd)
		}
	}
	reads(t, "", 0, api.Record{}, 0, api.ErrEnd)
	reads(t, strings.Repeat("x", 45), 0, api.Record{}, 0, api.ErrEnd)
	// It is told ahead of all else.
	refuses(t, changed(file("a", begin, 0, 0), func(f *laid) { f.Magic, f.Name = 0, 2 }), api.ErrEnd)
	refuses(t, changed(file("a", begin, 0, 0), func(f *laid) { f.Flags, f.Upper, f.Extra = 0, 0, 1 }), api.ErrEnd)
}

func TestReadTellsWhy(t *testing.T) {
	a, x := file("a", begin, 1, 5), dir("x")
	each := func(why api.Errno, change func(f *laid)) {
		t.Helper()
		refuses(t, changed(a, change), why)
		refuses(t, changed(x, change), why)
	}
	for _, magic := range []uint32{0, 0x04034b50, 0x06054b50, 0x02014b51, 0x03014b50, 0x504b0102, math.MaxUint32} {
		each(api.ErrForm, func(f *laid) { f.Magic = magic })
	}
	for _, flags := range []uint16{0, 8, 0x801, 0x809, 0x888, 0xc00, 0x818, 0x1800, math.MaxUint16} {
		each(api.ErrForm, func(f *laid) { f.Flags = flags })
	}
	for _, disk := range []uint16{1, 0x100, math.MaxUint16} {
		each(api.ErrForm, func(f *laid) { f.Disk = disk })
	}
	for _, s := range []string{"", "/", "/a", "a//b", "..", "../a", "a/..", "a/../b", ".", "a\x00", "a\\b", "\xff", ".swingle/", ".swingle/a", "a//", "a:b"} {
		f := fieldsOf(a)
		f.Name = uint16(len(s))
		refuses(t, bytesOf(f, s), api.ErrName)
	}
	for _, upper := range []uint16{0, 0x1000, 0x2000, 0x6000, 0xa000, 0xc000, 0xf000, 0x0fff} {
		each(api.ErrKind, func(f *laid) { f.Upper = upper })
	}
	refuses(t, changed(a, func(f *laid) { f.Upper = 0x41a4 }), api.ErrKind)
	refuses(t, changed(x, func(f *laid) { f.Upper = 0x81ed }), api.ErrKind)
	// What layer 19 tells.
	for _, method := range []uint16{1, 7, 9, 0x800, math.MaxUint16} {
		each(api.ErrForm, func(f *laid) { f.Method = method })
	}
	for _, n := range []uint32{1 << 31, math.MaxUint32} {
		each(api.ErrForm, func(f *laid) { f.Laid, f.Whole = n, n })
		each(api.ErrForm, func(f *laid) { f.Method, f.Laid = 8, n })
		each(api.ErrForm, func(f *laid) { f.Method, f.Whole = 8, n })
		each(api.ErrForm, func(f *laid) { f.At = n })
	}
	each(api.ErrForm, func(f *laid) { f.Laid++ })
	each(api.ErrForm, func(f *laid) { f.Whole++ })
	refuses(t, changed(x, func(f *laid) { f.Sum = 1 }), api.ErrForm)
	refuses(t, changed(x, func(f *laid) { f.Laid, f.Whole = 1, 1 }), api.ErrForm)
	refuses(t, changed(x, func(f *laid) { f.Method = 8 }), api.ErrForm)
	each(api.ErrTime, func(f *laid) { f.Low, f.High = 0, 0 })
	each(api.ErrTime, func(f *laid) { f.Low = 30 })
	refuses(t, changed(x, func(f *laid) { f.Low = 1 }), api.ErrTime)
}

func TestReadTellsTheFirst(t *testing.T) {
	a := file("a", begin, 1, 5)
	f := fieldsOf(a)
	f.Magic, f.Upper, f.Method, f.High = 0, 0, 1, 0
	refuses(t, bytesOf(f, ":"), api.ErrForm)
	f.Magic = 0x02014b50
	refuses(t, bytesOf(f, ":"), api.ErrName)
	refuses(t, bytesOf(f, "a"), api.ErrKind)
	f.Upper = 0x8000
	refuses(t, bytesOf(f, "a"), api.ErrForm)
	f.Method = 0
	refuses(t, bytesOf(f, "a"), api.ErrTime)
}

// P20.3

func TestAll(t *testing.T) {
	s := central.Print(rights())
	if l, why := central.All(s, len(rights())); why != api.OK || !slices.Equal(l, rights()) {
		t.Error(l, why)
	}
	if l, why := central.All("", 0); why != api.OK || len(l) > 0 {
		t.Error(l, why)
	}
	more := changed(dir("x"), func(f *laid) { f.Extra, f.Remark = 2, 3 }) + "extra"
	if l, why := central.All(more+more[:46]+"y/"+"extra", 2); why != api.OK || !slices.Equal(l, []api.Record{dir("x"), dir("y")}) {
		t.Error(l, why)
	}
}

func TestAllTellsWhy(t *testing.T) {
	a, b, x := central.Write(file("a", begin, 0, 0)), central.Write(file("b", later, 1, 2)), central.Write(dir("x"))
	wrong := changed(file("c", begin, 0, 0), func(f *laid) { f.Upper = 0 })
	late := changed(file("c", begin, 0, 0), func(f *laid) { f.High = 0 })
	for _, c := range []struct {
		s    string
		many int
		why  api.Errno
	}{
		{"", -1, api.ErrArg}, {a, -1, api.ErrArg}, {wrong, math.MinInt, api.ErrArg}, {"", 1, api.ErrEnd}, {"", math.MaxInt, api.ErrEnd}, {a + b + x, 4, api.ErrEnd}, {a + b + x, math.MaxInt, api.ErrEnd}, {a + b[:46], 2, api.ErrEnd},
		{a, 0, api.ErrMore}, {a + b + x, 2, api.ErrMore}, {a + "x", 1, api.ErrMore}, {a + wrong, 1, api.ErrMore}, {a + a + b, 2, api.ErrMore}, {"x", 0, api.ErrMore},
		{a + wrong, 2, api.ErrKind}, {wrong + late, 2, api.ErrKind}, {late + wrong, 2, api.ErrTime}, {a + a + wrong, 3, api.ErrKind}, {a + a, 3, api.ErrEnd}, {strings.Repeat("x", 60), 1, api.ErrEnd}, {strings.Repeat("\x00", 60), 1, api.ErrForm},
		{a + a, 2, api.ErrTwice}, {a + b + x + b, 4, api.ErrTwice}, {a + central.Write(dir("a")), 2, api.ErrTwice}, {x + a + b + central.Write(file("x", later, 5, 5)), 4, api.ErrTwice},
	} {
		if l, why := central.All(c.s, c.many); why != c.why || len(l) > 0 {
			t.Errorf("%d of %x: %v, %d, not %d", c.many, c.s, l, why, c.why)
		}
	}
}

// P20.4

func TestAllOfPrint(t *testing.T) {
	dice := rand.New(rand.NewSource(1))
	for range 500 {
		l := rights()
		dice.Shuffle(len(l), func(i, j int) { l[i], l[j] = l[j], l[i] })
		l = l[:dice.Intn(len(l)+1)]
		for i := range l {
			l[i].Mode, l[i].At = dice.Intn(512), dice.Intn(most)
			if l[i].Kind == api.File {
				l[i].Sum = dice.Uint32()
			}
		}
		if got, why := central.All(central.Print(l), len(l)); why != api.OK || !slices.Equal(got, l) {
			t.Errorf("%v: %v, %d", l, got, why)
		}
	}
}

func TestWriteOfReadOfAnything(t *testing.T) {
	dice := rand.New(rand.NewSource(2))
	fine := 0
	for range 20000 {
		l := rights()
		b := []byte(central.Write(l[dice.Intn(len(l))]))
		for range dice.Intn(3) {
			b[dice.Intn(len(b))] ^= 1 << dice.Intn(8)
		}
		r, n, why := central.Read(string(b), 0)
		switch {
		case why != api.OK && (r != api.Record{} || n != 0):
			t.Errorf("%x: %v, %d, %d", b, r, n, why)
		case why == api.OK && (local.Right(r) != api.OK || n < 46 || n > len(b)):
			t.Errorf("%x: %v, %d", b, r, n)
		case why == api.OK:
			fine++
			if other, size, why := central.Read(central.Write(r), 0); other != r || size != central.Size(r) || why != api.OK {
				t.Errorf("%v: %v, %d", r, other, why)
			}
		}
	}
	if fine < 1000 {
		t.Error(fine)
	}
}

// P1

func TestAllCallsEnd(t *testing.T) {
	dice := rand.New(rand.NewSource(3))
	for range 2000 {
		b := make([]byte, dice.Intn(200))
		dice.Read(b)
		copy(b, "PK\x01\x02")
		central.Read(string(b), dice.Intn(300)-50)
		central.All(string(b), dice.Intn(10)-2)
	}
	wild := api.Record{Path: strings.Repeat("/", 100000), Method: math.MinInt, Sum: math.MaxUint32, Laid: math.MaxInt, Whole: math.MinInt, Kind: math.MaxInt, Mode: math.MinInt, Time: math.MaxUint32, At: math.MaxInt}
	central.Size(wild)
	central.Write(wild)
	central.Print([]api.Record{wild, {}, wild})
}

func TestWhatIsHandedInStays(t *testing.T) {
	l := append(make([]api.Record, 0, 30), rights()...)
	central.Print(l)
	if !slices.Equal(l, rights()) || l[:cap(l)][len(l)] != (api.Record{}) {
		t.Error(l)
	}
}
