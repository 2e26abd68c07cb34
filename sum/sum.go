// Package sum is layer 2: see shared/doc/02-sum.md.
package sum

// turned is what a state is exclusive-or'd with, when the bit that is kept is 1.
const turned = 0xedb88320

// longest is how many bytes are gone by at most in one call.
const longest = 1 << 31

// Table has the states behind bytes.
type Table [256]uint32

// Made: P2.1.
func Made() Table {
	var t Table
	for b := range t {
		t[b] = behind(0, byte(b))
	}
	return t
}

// behind is a state behind the bits of a byte, bit by bit: what tables and shifts are made by.
func behind(state uint32, b byte) uint32 {
	for i := range 8 {
		kept := (state ^ uint32(b>>i)) & 1
		state >>= 1
		if kept == 1 {
			state ^= turned
		}
	}
	return state
}

// Of: P2.2.
func Of(s string) uint32 {
	t := Made()
	return End(t.Feed(Begin(), s))
}

// Step: P2.2.
func (t *Table) Step(state uint32, b byte) uint32 {
	if t == nil {
		return state
	}
	return t[byte(state)^b] ^ state>>8
}

// Feed: P2.2.
func (t *Table) Feed(state uint32, l ...string) uint32 {
	for _, s := range l {
		for i := range len(s) {
			state = t.Step(state, s[i])
		}
	}
	return state
}

// Begin: P2.1.
func Begin() uint32 { return ^uint32(0) }

// End: P2.1.
func End(state uint32) uint32 { return ^state }

// Join: P2.3. What a first text leaves in a state, and what a second one puts to it, do not mix: so the first one's sum goes by as many noughts as the second one has bytes. That all bits are turned at Begin and at End falls out between the two.
func Join(a, b uint32, long int) uint32 { return Noughts(a, long) ^ b }

// Noughts: P2.2.
func Noughts(state uint32, n int) uint32 {
	by := nought()
	for left := min(max(int64(n), 0), longest); left > 0; left >>= 1 {
		if left&1 == 1 {
			state = by.on(state)
		}
		by = by.twice()
	}
	return state
}

// shift says by each bit of a state what it comes to, alone, behind some number of bytes 0. A state behind them is the exclusive-or of these.
type shift [32]uint32

// nought is the shift by one byte 0.
func nought() shift {
	var by shift
	for i := range by {
		by[i] = behind(1<<i, 0)
	}
	return by
}

// on is a state behind the shift.
func (by *shift) on(state uint32) uint32 {
	var out uint32
	for i := range by {
		if state>>i&1 == 1 {
			out ^= by[i]
		}
	}
	return out
}

// twice is the shift by twice as many bytes.
func (by *shift) twice() shift {
	var out shift
	for i := range by {
		out[i] = by.on(by[i])
	}
	return out
}
