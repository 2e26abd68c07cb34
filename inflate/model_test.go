package inflate_test

import (
	"strings"

	"swingle/api"
)

// spelt is the bits of a text as signs 0 and 1, and how many of them were read.
type spelt struct {
	bits string
	at   int
}

func spell(s string) *spelt {
	var b strings.Builder
	for i := range len(s) {
		for k := range 8 {
			b.WriteByte('0' + s[i]>>k&1)
		}
	}
	return &spelt{bits: b.String()}
}

// take is the number of the next bits, the first one as its lowest.
func (p *spelt) take(n int) (int, bool) {
	if p.at+n > len(p.bits) {
		p.at = len(p.bits)
		return 0, false
	}
	v := 0
	for i := range n {
		v |= int(p.bits[p.at+i]-'0') << i
	}
	p.at += n
	return v, true
}

// book is codes as signs, and their symbols.
type book map[string]int

// bookOf makes the codes by the words of P4.1.
func bookOf(lens []int) book {
	b := book{}
	code, last := 0, 0
	for n := 1; n <= 15; n++ {
		for symbol, long := range lens {
			if long != n {
				continue
			}
			if last > 0 {
				code = (code + 1) << (n - last)
			}
			last = n
			signs := ""
			for i := n - 1; i >= 0; i-- {
				signs += string(rune('0' + code>>i&1))
			}
			b[signs] = symbol
		}
	}
	return b
}

// next is a symbol; an error, if there is none.
func (b book) next(p *spelt) (int, api.Errno) {
	if len(b) == 0 {
		return 0, api.ErrForm
	}
	signs := ""
	for range 15 {
		if p.at == len(p.bits) {
			return 0, api.ErrEnd
		}
		signs += p.bits[p.at : p.at+1]
		p.at++
		if symbol, ok := b[signs]; ok {
			return symbol, api.OK
		}
	}
	return 0, api.ErrForm
}

// share is how much of all codes lengths take, in parts of 2^15.
func share(lens []int) (room, many int) {
	for _, n := range lens {
		if n > 0 {
			room += 1 << (15 - n)
			many++
		}
	}
	return room, many
}

// mayBe tells if a block may have such lengths.
func mayBe(lens []int) bool {
	room, many := share(lens)
	return room == 1<<15 || many == 1 && room == 1<<14
}

func order() []int {
	return []int{16, 17, 18, 0, 8, 7, 9, 6, 10, 5, 11, 4, 12, 3, 13, 2, 14, 1, 15}
}

// tables is a block's own lengths, by the words of P8.2.
func tables(p *spelt) (first, second []int, why api.Errno) {
	a, _ := p.take(5)
	b, _ := p.take(5)
	c, ok := p.take(4)
	if !ok {
		return nil, nil, api.ErrEnd
	}
	a, b, c = a+257, b+1, c+4
	if a > 286 || b > 30 {
		return nil, nil, api.ErrForm
	}
	var short [19]int
	for i := range c {
		if short[order()[i]], ok = p.take(3); !ok {
			return nil, nil, api.ErrEnd
		}
	}
	if room, _ := share(short[:]); room != 1<<15 {
		return nil, nil, api.ErrForm
	}
	row, why := lengthRow(p, bookOf(short[:]), a+b)
	if why != api.OK {
		return nil, nil, why
	}
	first, second = row[:a:a], row[a:]
	_, used := share(second)
	if first[256] == 0 || !mayBe(first) || !mayBe(second) && used > 0 {
		return nil, nil, api.ErrForm
	}
	return first, second, api.OK
}

func lengthRow(p *spelt, codes book, long int) ([]int, api.Errno) {
	var row []int
	for len(row) < long {
		code, why := codes.next(p)
		if why != api.OK {
			return nil, why
		}
		n, times, more := code, 1, 0
		switch {
		case code == 16 && len(row) == 0:
			return nil, api.ErrForm
		case code == 16:
			n, times, more = row[len(row)-1], 3, 2
		case code == 17:
			n, times, more = 0, 3, 3
		case code == 18:
			n, times, more = 0, 11, 7
		}
		extra, ok := p.take(more)
		if !ok {
			return nil, api.ErrEnd
		}
		for range times + extra {
			row = append(row, n)
		}
	}
	if len(row) > long {
		return nil, api.ErrForm
	}
	return row, api.OK
}

// longAt and backAt are the rows of RFC 1951: where each code begins, and how many bits it has.
func longAt(code int) (first, bits int, ok bool) {
	firsts := []int{3, 4, 5, 6, 7, 8, 9, 10, 11, 13, 15, 17, 19, 23, 27, 31, 35, 43, 51, 59, 67, 83, 99, 115, 131, 163, 195, 227, 258}
	extra := []int{0, 0, 0, 0, 0, 0, 0, 0, 1, 1, 1, 1, 2, 2, 2, 2, 3, 3, 3, 3, 4, 4, 4, 4, 5, 5, 5, 5, 0}
	if code < 257 || code > 285 {
		return 0, 0, false
	}
	return firsts[code-257], extra[code-257], true
}

func backAt(code int) (first, bits int, ok bool) {
	firsts := []int{1, 2, 3, 4, 5, 7, 9, 13, 17, 25, 33, 49, 65, 97, 129, 193, 257, 385, 513, 769, 1025, 1537, 2049, 3073, 4097, 6145, 8193, 12289, 16385, 24577}
	if code < 0 || code > 29 {
		return 0, 0, false
	}
	return firsts[code], max(code/2-1, 0), true
}

// model is Of, by the words of P8.1 and P8.3.
func model(s string, most int) (string, int, api.Errno) {
	most = min(max(most, 0), api.MaxData)
	p := spell(s)
	out := ""
	for last := 0; last == 0; {
		var ok bool
		if last, ok = p.take(1); !ok {
			return "", 0, api.ErrEnd
		}
		kind, ok := p.take(2)
		if !ok {
			return "", 0, api.ErrEnd
		}
		why := api.ErrForm
		switch kind {
		case 0:
			out, why = storedBlock(p, s, out, most)
		case 1:
			first := strings.Repeat("8", 144) + strings.Repeat("9", 112) + strings.Repeat("7", 24) + strings.Repeat("8", 8)
			out, why = codedBlock(p, out, most, bookOf(digits(first)), bookOf(digits(strings.Repeat("5", 32))))
		case 2:
			var first, second []int
			if first, second, why = tables(p); why == api.OK {
				out, why = codedBlock(p, out, most, bookOf(first), bookOf(second))
			}
		}
		if why != api.OK {
			return "", 0, why
		}
	}
	return out, (p.at + 7) / 8, api.OK
}

func digits(s string) []int {
	var l []int
	for i := range len(s) {
		l = append(l, int(s[i]-'0'))
	}
	return l
}

func storedBlock(p *spelt, s, out string, most int) (string, api.Errno) {
	p.at = (p.at + 7) / 8 * 8
	n, ok := p.take(16)
	if !ok {
		return "", api.ErrEnd
	}
	m, ok := p.take(16)
	switch at := p.at / 8; {
	case !ok:
		return "", api.ErrEnd
	case n+m != 65535:
		return "", api.ErrForm
	case at+n > len(s):
		return "", api.ErrEnd
	case len(out)+n > most:
		return "", api.ErrLong
	default:
		p.at += 8 * n
		return out + s[at:at+n], api.OK
	}
}

func codedBlock(p *spelt, out string, most int, longs, backs book) (string, api.Errno) {
	for {
		code, why := longs.next(p)
		switch {
		case why != api.OK:
			return "", why
		case code == 256:
			return out, api.OK
		case code < 256 && len(out) == most:
			return "", api.ErrLong
		case code < 256:
			out += string([]byte{byte(code)})
			continue
		}
		long, why := behindCode(p, code, longAt)
		if why != api.OK {
			return "", why
		}
		if code == 284 && long == 258 {
			return "", api.ErrForm
		}
		code, why = backs.next(p)
		if why != api.OK {
			return "", why
		}
		back, why := behindCode(p, code, backAt)
		switch {
		case why != api.OK:
			return "", why
		case back > len(out):
			return "", api.ErrForm
		case len(out)+long > most:
			return "", api.ErrLong
		}
		piece := out[len(out)-back:]
		for len(piece) < long {
			piece += piece
		}
		out += piece[:long]
	}
}

func behindCode(p *spelt, code int, at func(code int) (int, int, bool)) (int, api.Errno) {
	first, bits, ok := at(code)
	if !ok {
		return 0, api.ErrForm
	}
	more, ok := p.take(bits)
	if !ok {
		return 0, api.ErrEnd
	}
	return first + more, api.OK
}
