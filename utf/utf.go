// Package utf is layer 2: runes as bytes. See shared/doc/02-utf.md.
package utf

import "larum/api"

// The bounds of runes, and of the halves among them.
const (
	lastRune   = 0x10FFFF
	firstHalf  = 0xD800
	secondHalf = 0xDC00
	lastHalf   = 0xDFFF
)

const (
	longest  = 4    // bytes of a rune
	tail     = 0x80 // what a byte behind the first one has on top
	tailBits = 6    // how many bits of the rune it bears
)

// first is what first bytes from one up to another one say: how many bytes
// the rune has, and between which ones its second byte stands.
type first struct {
	from, to byte
	size     int
	low, top byte
}

// firsts has a row for each kind of first byte. The bounds of the second byte
// keep out what is too long for its rune, halves, and what is above the last
// rune, as soon as that byte is there.
var firsts = [9]first{
	{0x00, 0x7F, 1, 0, 0},
	{0xC2, 0xDF, 2, 0x80, 0xBF},
	{0xE0, 0xE0, 3, 0xA0, 0xBF},
	{0xE1, 0xEC, 3, 0x80, 0xBF},
	{0xED, 0xED, 3, 0x80, 0x9F},
	{0xEE, 0xEF, 3, 0x80, 0xBF},
	{0xF0, 0xF0, 4, 0x90, 0xBF},
	{0xF1, 0xF3, 4, 0x80, 0xBF},
	{0xF4, 0xF4, 4, 0x80, 0x8F},
}

// leads has by a rune's size what its first byte has on top.
var leads = [longest + 1]byte{0, 0, 0xC0, 0xE0, 0xF0}

// Next: the rune that b begins with, and how many bytes it has.
func Next(b []byte) (rune, int, api.Errno) {
	if len(b) == 0 {
		return 0, 0, api.ErrNone
	}
	f, ok := firstOf(b[0])
	if !ok {
		return 0, 0, api.ErrForm
	}
	have := min(len(b), f.size)
	for i := 1; i < have; i++ {
		if !f.goesOn(i, b[i]) {
			return 0, 0, api.ErrForm
		}
	}
	if have < f.size {
		return 0, 0, api.ErrMore
	}
	return join(b[:have]), have, api.OK
}

// Put: the bytes of r.
func Put(r rune) ([]byte, api.Errno) {
	if !isRune(r) {
		return nil, api.ErrArg
	}
	b := make([]byte, size(r))
	for i := len(b) - 1; i > 0; i-- {
		b[i] = tail | byte(r&(1<<tailBits-1))
		r >>= tailBits
	}
	b[0] = leads[len(b)] | byte(r)
	return b, api.OK
}

// Valid: is s runes' bytes, one behind the other?
func Valid(s string) bool {
	_, end := walk(s)
	return end == len(s)
}

// Bad: the first place of s at which no rune's bytes begin, if there is one.
func Bad(s string) (int, bool) {
	_, end := walk(s)
	if end == len(s) {
		return 0, false
	}
	return end, true
}

// Pair: the rune that a first half and a second one stand for.
func Pair(hi, lo rune) (rune, bool) {
	if hi < firstHalf || hi >= secondHalf || lo < secondHalf || lo > lastHalf {
		return 0, false
	}
	return 0x10000 + 0x400*(hi-firstHalf) + (lo - secondHalf), true
}

// Count: how many runes s has.
func Count(s string) (int, api.Errno) {
	n, end := walk(s)
	if end < len(s) {
		return 0, api.ErrForm
	}
	return n, api.OK
}

// walk goes over the runes that s begins with: how many there are, and where
// they end.
func walk(s string) (n, end int) {
	for end < len(s) {
		// No more than one rune's bytes, so that s is not copied as a whole.
		_, size, e := Next([]byte(s[end:min(end+longest, len(s))]))
		if e != api.OK {
			break
		}
		n++
		end += size
	}
	return n, end
}

func firstOf(c byte) (first, bool) {
	for _, f := range firsts {
		if f.from <= c && c <= f.to {
			return f, true
		}
	}
	return first{}, false
}

// goesOn: may c stand at place i behind such a first byte?
func (f first) goesOn(i int, c byte) bool {
	if i == 1 {
		return f.low <= c && c <= f.top
	}
	return c&^(1<<tailBits-1) == tail
}

// join puts together what the bytes of one rune bear.
func join(b []byte) rune {
	r := rune(b[0] ^ leads[len(b)])
	for _, c := range b[1:] {
		r = r<<tailBits | rune(c^tail)
	}
	return r
}

func isRune(r rune) bool {
	return 0 <= r && r <= lastRune && (r < firstHalf || r > lastHalf)
}

// size counts the bytes of a rune: each bound that it is above adds one.
func size(r rune) int {
	n := 1
	switch {
	case r > 0xFFFF:
		n++
		fallthrough
	case r > 0x7FF:
		n++
		fallthrough
	case r > 0x7F:
		n++
	}
	return n
}
