package local_test

import (
	"archive/zip"
	"bytes"
	"encoding/binary"
	"io"
	"math"
	"math/rand"
	"slices"
	"strings"
	"testing"

	"swingle/api"
	"swingle/local"
)

const (
	begin = 0x210000 // 1980-01-01 00:00:00
	later = 46<<25 | 11<<21 | 20<<16 | 17<<11 | 45<<5 | 29
	end   = 127<<25 | 12<<21 | 31<<16 | 23<<11 | 59<<5 | 29
	most  = 1<<31 - 1
)

// file is the record of a file that is stored.
func file(path string, time uint32, sum uint32, size int) api.Record {
	return api.Record{Path: path, Kind: api.File, Mode: 0o644, Time: time, Sum: sum, Laid: size, Whole: size}
}

func dir(path string) api.Record {
	return api.Record{Path: path, Kind: api.Dir, Mode: 0o755, Time: begin}
}

// with is a record that is changed.
func with(r api.Record, change func(r *api.Record)) api.Record {
	change(&r)
	return r
}

func deflated(r api.Record, laid int) api.Record {
	return with(r, func(r *api.Record) { r.Method, r.Laid = 8, laid })
}

func rightRecords() []api.Record {
	long := strings.Repeat("directory/", 11) + strings.Repeat("f", 60)
	return []api.Record{
		file("a", begin, 0, 0), file("a/b c.txt", later, 0xcbf43926, 9), file("\u00e9", end, math.MaxUint32, most), file(".swingle", begin, 5, 6), file("a/.swingle", begin, 5, 6),
		deflated(file("a", later, 1, 65000), 2), deflated(file("a", later, 1, 0), 2), deflated(file("a", later, 1, most), most), deflated(file("a", later, 1, 5), 5),
		dir("a"), dir("a/b"), dir("a/.swingle"), file(long, later, 1, 2), dir(long),
		with(file("a", begin, 0, 0), func(r *api.Record) { r.At, r.Mode = most, 0 }),
		with(dir("a"), func(r *api.Record) { r.At, r.Mode = 512, 0o777 }),
	}
}

// wrongPaths is names that are none, of files or of directories.
func wrongPaths() []string {
	return []string{"", "/", "//", "/a", "a//b", "a//", ".", "./", "..", "../", "a/..", "../a", "a/./b", "a\x00", "a:b", "a\\b", "\xff", ".swingle/", ".swingle/a", ".swingle/a/", "/.swingle",
		strings.Repeat("x", 61), strings.Repeat("x/", 12) + "x", strings.Repeat(strings.Repeat("x", 40)+"/", 5)}
}

func wrongTimes() []uint32 {
	return []uint32{0, 1, math.MaxUint32, begin - 1, begin + 30, begin + 24<<11, end + 1}
}

// P19.1

func TestName(t *testing.T) {
	for _, c := range []struct {
		r    api.Record
		want string
	}{
		{file("a/b", begin, 0, 0), "a/b"}, {dir("a/b"), "a/b/"}, {file(".swingle", begin, 0, 0), ".swingle"}, {api.Record{}, ""},
		{api.Record{Kind: api.Dir}, "/"}, {api.Record{Kind: api.Dir, Path: "/a/"}, "/a//"}, {api.Record{Kind: 3, Path: "a"}, "a"}, {api.Record{Kind: -2, Path: "\xff/"}, "\xff/"},
	} {
		if s := local.Name(c.r); s != c.want {
			t.Errorf("%v: %q", c.r, s)
		}
		if n := local.Size(c.r); n != 30+len(c.want) {
			t.Errorf("%v: %d bytes", c.r, n)
		}
	}
}

func TestPath(t *testing.T) {
	for _, c := range []struct {
		s, path string
		kind    int
	}{
		{"a", "a", api.File}, {"a/", "a", api.Dir}, {"a/b", "a/b", api.File}, {"a/b/", "a/b", api.Dir}, {".swingle", ".swingle", api.File},
		{"a/.swingle", "a/.swingle", api.File}, {"a/.swingle/", "a/.swingle", api.Dir}, {".swingle.", ".swingle.", api.File}, {"\u00e9 x/", "\u00e9 x", api.Dir},
		{strings.Repeat("x/", 12), strings.Repeat("x/", 11) + "x", api.Dir}, {strings.Repeat("x/", 11) + "x", strings.Repeat("x/", 11) + "x", api.File},
	} {
		if path, kind, ok := local.Path(c.s); !ok || path != c.path || kind != c.kind {
			t.Errorf("%q: %q, %d, %v", c.s, path, kind, ok)
		}
	}
	for _, s := range wrongPaths() {
		if path, kind, ok := local.Path(s); ok || path != "" || kind != api.None {
			t.Errorf("%q: %q, %d, %v", s, path, kind, ok)
		}
	}
}

func TestRight(t *testing.T) {
	for _, r := range rightRecords() {
		if why := local.Right(r); why != api.OK {
			t.Errorf("%v: %d", r, why)
		}
	}
}

func TestRightTellsWhy(t *testing.T) {
	wrong := func(want api.Errno, r api.Record) {
		t.Helper()
		if why := local.Right(r); why != want {
			t.Errorf("%v: %d, not %d", r, why, want)
		}
	}
	for _, path := range append(wrongPaths(), "a/", "a/b/") {
		wrong(api.ErrName, file(path, begin, 0, 0))
		wrong(api.ErrName, dir(path))
	}
	wrong(api.ErrName, dir(".swingle"))
	wrong(api.ErrName, api.Record{})
	for _, kind := range []int{api.None, 3, -1, math.MinInt, math.MaxInt} {
		wrong(api.ErrName, with(file("a", begin, 0, 0), func(r *api.Record) { r.Kind = kind }))
	}
	for _, n := range []int{-1, most + 1, 1 << 32, math.MinInt, math.MaxInt} {
		wrong(api.ErrForm, file("a", begin, 0, n))
		wrong(api.ErrForm, deflated(file("a", begin, 0, 5), n))
		wrong(api.ErrForm, deflated(file("a", begin, 0, n), 5))
		for _, r := range []api.Record{file("a", begin, 0, 5), deflated(file("a", begin, 0, 5), 4), dir("a")} {
			wrong(api.ErrForm, with(r, func(r *api.Record) { r.At = n }))
			wrong(api.ErrMode, with(r, func(r *api.Record) { r.Mode = n }))
		}
	}
	for _, method := range []int{-1, 1, 7, 9, 12, 1 << 16, 1<<16 + 8, math.MinInt, math.MaxInt} {
		wrong(api.ErrForm, with(file("a", begin, 0, 5), func(r *api.Record) { r.Method = method }))
	}
	wrong(api.ErrForm, with(file("a", begin, 0, 5), func(r *api.Record) { r.Laid = 4 }))
	wrong(api.ErrForm, with(file("a", begin, 0, 5), func(r *api.Record) { r.Whole = 6 }))
	wrong(api.ErrForm, with(dir("a"), func(r *api.Record) { r.Sum = 1 }))
	wrong(api.ErrForm, with(dir("a"), func(r *api.Record) { r.Laid = 1 }))
	wrong(api.ErrForm, with(dir("a"), func(r *api.Record) { r.Whole = 1 }))
	wrong(api.ErrForm, with(dir("a"), func(r *api.Record) { r.Laid, r.Whole = 1, 1 }))
	wrong(api.ErrForm, with(dir("a"), func(r *api.Record) { r.Method = 8 }))
	wrong(api.ErrMode, with(dir("a"), func(r *api.Record) { r.Mode = 512 }))
	wrong(api.ErrMode, with(file("a", begin, 0, 0), func(r *api.Record) { r.Mode = -1 }))
	for _, time := range append(wrongTimes(), begin+1, later) {
		wrong(api.ErrTime, with(dir("a"), func(r *api.Record) { r.Time = time }))
	}
	for _, time := range wrongTimes() {
		wrong(api.ErrTime, file("a", time, 0, 0))
		wrong(api.ErrTime, deflated(file("a", time, 0, 0), 2))
	}
}

func TestRightTellsTheFirst(t *testing.T) {
	all := api.Record{Path: "/", Method: 3, Sum: 1, Laid: -1, Whole: 2, Kind: api.Dir, Mode: -1}
	if why := local.Right(all); why != api.ErrName {
		t.Error(why)
	}
	all.Path = "a"
	if why := local.Right(all); why != api.ErrForm {
		t.Error(why)
	}
	all.Method, all.Sum, all.Laid, all.Whole = 0, 0, 0, 0
	if why := local.Right(all); why != api.ErrMode {
		t.Error(why)
	}
	all.Mode = 0
	if why := local.Right(all); why != api.ErrTime {
		t.Error(why)
	}
}

// P19.2

// fields is a header's numbers in their order.
type fields struct {
	Magic                  uint32
	Version, Flags, Method uint16
	Low, High              uint16
	Sum, Laid, Whole       uint32
	Name, More             uint16
}

// bytesOf is a header, laid by the library.
func bytesOf(f fields, behind string) string {
	var b bytes.Buffer
	binary.Write(&b, binary.LittleEndian, f)
	return b.String() + behind
}

// fieldsOf is the fields of a record that is right.
func fieldsOf(r api.Record) fields {
	return fields{
		Magic: 0x04034b50, Version: 20, Flags: 0x800, Method: uint16(r.Method), Low: uint16(r.Time), High: uint16(r.Time >> 16),
		Sum: r.Sum, Laid: uint32(r.Laid), Whole: uint32(r.Whole), Name: uint16(len(local.Name(r))),
	}
}

func TestWrite(t *testing.T) {
	for _, r := range rightRecords() {
		want := bytesOf(fieldsOf(r), local.Name(r))
		if s := local.Write(r); s != want || len(s) != local.Size(r) {
			t.Errorf("%v: %q, not %q", r, s, want)
		}
	}
	if s := local.Write(file("a", begin, 0, 0)); len(s) != 31 {
		t.Errorf("%d bytes", len(s))
	}
}

func TestWriteOfWrongRecords(t *testing.T) {
	for _, r := range []api.Record{
		{}, file("/a", begin, 0, 0), dir(".swingle"), file("a", 0, 0, 0), file("a", begin, 0, -1), file("a", begin, 0, most+1),
		with(dir("a"), func(r *api.Record) { r.Time = later }), with(dir("a"), func(r *api.Record) { r.Mode = 512 }), with(dir("a"), func(r *api.Record) { r.Sum = 1 }),
	} {
		if s := local.Write(r); s != "" {
			t.Errorf("%v: %q", r, s)
		}
	}
}

// P19.3

// read fails if the header at a place is told otherwise.
func read(t *testing.T, s string, at int, want api.Record, size int, behind bool, why api.Errno) {
	t.Helper()
	if r, n, b, e := local.Read(s, at); r != want || n != size || b != behind || e != why {
		t.Errorf("%v, %d, %v, %d, not %v, %d, %v, %d", r, n, b, e, want, size, behind, why)
	}
}

func refused(t *testing.T, s string, at int, why api.Errno) {
	t.Helper()
	read(t, s, at, api.Record{}, 0, false, why)
}

// asRead is what is read of a record's header at a place.
func asRead(r api.Record, at int) api.Record {
	r.Mode, r.At = 0, at
	return r
}

func TestReadOfWrite(t *testing.T) { // P19.5
	for _, r := range rightRecords() {
		s := local.Write(r)
		read(t, s, 0, asRead(r, 0), len(s), false, api.OK)
		read(t, "12345"+s+"behind", 5, asRead(r, 5), len(s), false, api.OK)
		read(t, s+s, len(s), asRead(r, len(s)), len(s), false, api.OK)
	}
}

func TestReadOfWhatEndsTooEarly(t *testing.T) {
	for _, r := range rightRecords() {
		s := local.Write(r)
		for end := range len(s) {
			refused(t, s[:end], 0, api.ErrEnd)
			refused(t, "ab"+s[:end], 2, api.ErrEnd)
		}
		for _, at := range []int{-1, math.MinInt, len(s), len(s) + 1, math.MaxInt} {
			refused(t, s, at, api.ErrEnd)
		}
	}
	// That is told first, whatever else isn't right.
	refused(t, strings.Repeat("x", 29), 0, api.ErrEnd)
	refused(t, bytesOf(fields{Name: 5}, "abcd"), 0, api.ErrEnd)
	refused(t, bytesOf(fields{Name: 2, More: 3}, "abcd"), 0, api.ErrEnd)
	refused(t, bytesOf(fields{Name: 65535, More: 65535}, strings.Repeat("x", 131069)), 0, api.ErrEnd)
}

func TestReadOfMoreBytes(t *testing.T) {
	for _, more := range []int{1, 4, 65535} {
		r := deflated(file("a/b", later, 7, 9), 8)
		f := fieldsOf(r)
		f.More = uint16(more)
		s := bytesOf(f, "a/b"+strings.Repeat("m", more))
		read(t, s, 0, asRead(r, 0), 33+more, false, api.OK)
		read(t, "0"+s+"1", 1, asRead(r, 1), 33+more, false, api.OK)
		refused(t, s[:len(s)-1], 0, api.ErrEnd)
	}
}

func TestReadOfLaterSums(t *testing.T) {
	f := fieldsOf(file("a", later, 0, 0))
	f.Flags = 0x808
	want := asRead(file("a", later, 0, 0), 3)
	read(t, "012"+bytesOf(f, "a"), 3, want, 31, true, api.OK)
	f.Method, want.Method = 8, 8
	read(t, "012"+bytesOf(f, "a"), 3, want, 31, true, api.OK)
	d := fieldsOf(dir("a"))
	d.Flags = 0x808
	read(t, bytesOf(d, "a/"), 0, asRead(dir("a"), 0), 32, true, api.OK)
	for _, change := range []func(f *fields){
		func(f *fields) { f.Sum = 1 }, func(f *fields) { f.Laid = 1 }, func(f *fields) { f.Whole = 1 }, func(f *fields) { f.Sum, f.Laid, f.Whole = 1, 1<<31, 1<<31 },
	} {
		g := f
		change(&g)
		refused(t, bytesOf(g, "a"), 0, api.ErrForm)
		g.Flags = 0x800
		if _, _, behind, why := local.Read(bytesOf(g, "a"), 0); behind || why != api.OK {
			t.Errorf("%v: %v, %d", g, behind, why)
		}
	}
}

func TestReadTellsForm(t *testing.T) {
	f := fieldsOf(file("a", later, 1, 2))
	for _, change := range []func(f *fields){
		func(f *fields) { f.Magic = 0 }, func(f *fields) { f.Magic++ }, func(f *fields) { f.Magic += 1 << 24 }, func(f *fields) { f.Magic = 0x02014b50 }, func(f *fields) { f.Magic = 0x08074b50 },
		func(f *fields) { f.Flags = 0 }, func(f *fields) { f.Flags = 8 }, func(f *fields) { f.Flags = 0x801 }, func(f *fields) { f.Flags = 0x802 }, func(f *fields) { f.Flags = 0x809 }, func(f *fields) { f.Flags = 0x8800 }, func(f *fields) { f.Flags = 0xffff },
		func(f *fields) { f.Method = 1 }, func(f *fields) { f.Method = 9 }, func(f *fields) { f.Method = 0x800 }, func(f *fields) { f.Method = 0x108 },
	} {
		g := f
		change(&g)
		refused(t, bytesOf(g, "a"), 0, api.ErrForm)
		refused(t, bytesOf(g, "/"), 0, api.ErrForm)
		g.Low, g.High = 0, 0
		refused(t, bytesOf(g, "a"), 0, api.ErrForm)
	}
	// Of the version nothing is asked.
	for _, version := range []uint16{0, 10, 21, 0xffff} {
		g := f
		g.Version = version
		read(t, bytesOf(g, "a"), 0, asRead(file("a", later, 1, 2), 0), 31, false, api.OK)
	}
	// Nor of the sizes.
	f.Laid, f.Whole, f.Sum = 1<<31, 1<<32-1, 1<<32-1
	read(t, bytesOf(f, "a"), 0, api.Record{Path: "a", Kind: api.File, Time: later, Sum: 1<<32 - 1, Laid: 1 << 31, Whole: 1<<32 - 1}, 31, false, api.OK)
}

func TestReadTellsNameAndTime(t *testing.T) {
	named := func(f fields, name string) string {
		f.Name = uint16(len(name))
		return bytesOf(f, name)
	}
	f := fieldsOf(file("a", later, 1, 2))
	for _, s := range wrongPaths() {
		refused(t, named(f, s), 0, api.ErrName)
		g := f
		g.Low, g.High = 0, 0
		refused(t, named(g, s), 0, api.ErrName)
	}
	for _, time := range wrongTimes() {
		g := f
		g.Low, g.High = uint16(time), uint16(time>>16)
		refused(t, named(g, "a"), 0, api.ErrTime)
		refused(t, named(g, "a/"), 0, api.ErrTime)
	}
	refused(t, named(f, "a/"), 0, api.ErrTime)
	read(t, named(f, ".swingle"), 0, asRead(file(".swingle", later, 1, 2), 0), 38, false, api.OK)
}

func TestReadOfOthers(t *testing.T) {
	var b bytes.Buffer
	w := zip.NewWriter(&b)
	f, err := w.CreateHeader(&zip.FileHeader{Name: "é/b.txt", Method: zip.Deflate, ModifiedDate: later >> 16, ModifiedTime: later & 0xffff})
	if err != nil {
		t.Fatal(err)
	}
	io.WriteString(f, strings.Repeat("swingle", 100))
	w.Close()
	r, size, behind, why := local.Read(b.String(), 0)
	if why != api.OK || !behind || r.Path != "é/b.txt" || r.Kind != api.File || r.Method != 8 || r.Time != later {
		t.Fatalf("%v, %d, %v, %d", r, size, behind, why)
	}
	z, err := zip.NewReader(bytes.NewReader(b.Bytes()), int64(b.Len()))
	if err != nil {
		t.Fatal(err)
	}
	h := z.File[0]
	at := size + int(h.CompressedSize64)
	if sum, laid, whole, n, ok := local.Tail(b.String(), at); !ok || sum != h.CRC32 || laid != int(h.CompressedSize64) || whole != 700 || n != 16 {
		t.Errorf("%x, %d, %d, %d, %v", sum, laid, whole, n, ok)
	}
}

// P19.4

func le(l ...uint32) string {
	var b []byte
	for _, n := range l {
		b = binary.LittleEndian.AppendUint32(b, n)
	}
	return string(b)
}

func TestTail(t *testing.T) {
	const sign = 0x08074b50
	for _, c := range []struct {
		s                 string
		sum               uint32
		laid, whole, size int
	}{
		{le(1, 2, 3), 1, 2, 3, 12},
		{le(sign, 1, 2, 3), 1, 2, 3, 16},
		{le(0, 0, 0), 0, 0, 0, 12},
		{le(sign, 0, 0, 0), 0, 0, 0, 16},
		{le(math.MaxUint32, 1<<31, math.MaxUint32), math.MaxUint32, 1 << 31, math.MaxUint32, 12},
		{le(sign, math.MaxUint32, math.MaxUint32, 1<<31), math.MaxUint32, math.MaxUint32, 1 << 31, 16},
		{le(sign, sign, 2, 3), sign, 2, 3, 16},
		{le(sign+1, 2, 3), sign + 1, 2, 3, 12},
		{le(1, sign, 3), 1, sign, 3, 12},
	} {
		for _, ahead := range []string{"", "x", "PK\x07\x08", strings.Repeat("y", 512)} {
			for _, behind := range []string{"", "z", le(sign, 4, 5, 6)} {
				sum, laid, whole, size, ok := local.Tail(ahead+c.s+behind, len(ahead))
				if !ok || sum != c.sum || laid != c.laid || whole != c.whole || size != c.size {
					t.Errorf("%q at %d: %x, %d, %d, %d, %v", ahead+c.s+behind, len(ahead), sum, laid, whole, size, ok)
				}
			}
			for end := range len(c.s) {
				none(t, ahead+c.s[:end], len(ahead))
			}
		}
	}
	for _, at := range []int{-1, -4, math.MinInt, 17, 20, math.MaxInt, math.MaxInt - 3} {
		none(t, le(sign, 1, 2, 3), at)
	}
}

// none fails if something is told to stand behind an entry.
func none(t *testing.T, s string, at int) {
	t.Helper()
	if sum, laid, whole, size, ok := local.Tail(s, at); ok || sum != 0 || laid != 0 || whole != 0 || size != 0 {
		t.Errorf("%q at %d: %x, %d, %d, %d, %v", s, at, sum, laid, whole, size, ok)
	}
}

// P1, P2

func TestAllCallsEnd(t *testing.T) {
	numbers := []int{math.MinInt, -1, 0, 1, 2, 8, 511, 512, most, most + 1, math.MaxInt}
	for _, path := range append(wrongPaths(), "a", "a/", ".swingle", strings.Repeat("a/", 100000)) {
		for _, n := range numbers {
			for _, m := range numbers {
				r := api.Record{Path: path, Method: n, Sum: uint32(m), Laid: m, Whole: n, Kind: m, Mode: n, Time: uint32(n), At: m}
				local.Name(r)
				local.Size(r)
				local.Right(r)
				local.Write(r)
			}
			local.Read(path, n)
			local.Tail(path, n)
		}
	}
}

func TestWhateverIsRead(t *testing.T) {
	r := rand.New(rand.NewSource(19))
	records := rightRecords()
	for range 20000 {
		b := []byte(local.Write(records[r.Intn(len(records))]))
		for range 1 + r.Intn(2) {
			b[r.Intn(len(b))] = byte(r.Intn(256))
		}
		got, size, _, why := local.Read(string(b), 0)
		if why != api.OK {
			refused(t, string(b), 0, why)
			continue
		}
		path, kind, ok := local.Path(local.Name(got))
		if !ok || path != got.Path || kind != got.Kind || size > len(b) || slices.Contains(wrongPaths(), got.Path) || strings.Contains(got.Path, "..") && strings.Contains("/"+got.Path+"/", "/../") {
			t.Fatalf("%q: %v", b, got)
		}
	}
}
