// Package field is layer 1: see shared/doc/01-field.md.
package field

// widest is how many bytes a uint64 has.
const widest = 8

// Put: P1.1.
func Put(n uint64, wide int) string {
	var l [widest]byte
	wide = min(max(wide, 0), widest)
	for i := range wide {
		l[i] = byte(n >> (8 * i))
	}
	return string(l[:wide])
}

// Get: P1.1.
func Get(s string, wide int) (uint64, bool) {
	if wide < 0 || wide > widest || len(s) < wide {
		return 0, false
	}
	var n uint64
	for i := range wide {
		n |= uint64(s[i]) << (8 * i)
	}
	return n, true
}

// Reader reads fields.
type Reader struct {
	s      string
	at     int
	broken bool
}

// Read: P1.2.
func Read(s string) *Reader { return &Reader{s: s} }

// Num: P1.2.
func (r *Reader) Num(wide int) uint64 {
	if !r.Fine() {
		return 0
	}
	n, ok := Get(r.s[r.at:], wide)
	if !ok {
		r.broken = true
		return 0
	}
	r.at += wide
	return n
}

// Text: P1.2.
func (r *Reader) Text(n int) string {
	if !r.Fine() {
		return ""
	}
	// Held against what is left, as at+n may be more than an int holds.
	if n < 0 || n > r.Left() {
		r.broken = true
		return ""
	}
	from := r.at
	r.at += n
	return r.s[from:r.at]
}

// Skip: P1.2.
func (r *Reader) Skip(n int) { r.Text(n) }

// Left: P1.2. One that isn't fine goes no further, but its place stays told.
func (r *Reader) Left() int {
	if r == nil {
		return 0
	}
	return len(r.s) - r.at
}

// At: P1.2.
func (r *Reader) At() int {
	if r == nil {
		return 0
	}
	return r.at
}

// Fine: P1.2.
func (r *Reader) Fine() bool { return r != nil && !r.broken }

// Writer writes fields.
type Writer struct {
	b []byte
}

// Num: P1.3.
func (w *Writer) Num(n uint64, wide int) *Writer { return w.Text(Put(n, wide)) }

// Text: P1.3.
func (w *Writer) Text(l ...string) *Writer {
	if w == nil {
		return nil
	}
	for _, s := range l {
		w.b = append(w.b, s...)
	}
	return w
}

// Bytes: P1.3.
func (w *Writer) Bytes() string {
	if w == nil {
		return ""
	}
	return string(w.b)
}

// Len: P1.3.
func (w *Writer) Len() int {
	if w == nil {
		return 0
	}
	return len(w.b)
}
