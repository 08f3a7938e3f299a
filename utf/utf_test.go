package utf

import (
	"bytes"
	"math"
	"strings"
	"testing"
	"unicode/utf8"

	"larum/api"
)

// edges are the first and the last rune of each number of bytes, and those
// beside the halves.
var edges = []struct {
	r     rune
	bytes string
}{
	{0x0, "\x00"},
	{0x7F, "\x7F"},
	{0x80, "\xC2\x80"},
	{0x7FF, "\xDF\xBF"},
	{0x800, "\xE0\xA0\x80"},
	{0xD7FF, "\xED\x9F\xBF"},
	{0xE000, "\xEE\x80\x80"},
	{0xFFFF, "\xEF\xBF\xBF"},
	{0x10000, "\xF0\x90\x80\x80"},
	{0x10FFFF, "\xF4\x8F\xBF\xBF"},
}

// nothing has texts that are neither a rune's bytes nor their beginning.
var nothing = []string{
	"\x80", "\xBF", "\x80\x80", // no first bytes
	"\xC0", "\xC1", "\xC0\x80", "\xC1\xBF", // too long for their rune
	"\xE0\x80", "\xE0\x9F", "\xE0\x80\x80", "\xE0\x9F\xBF",
	"\xF0\x80", "\xF0\x8F", "\xF0\x80\x80\x80", "\xF0\x8F\xBF\xBF",
	"\xED\xA0", "\xED\xBF", "\xED\xA0\x80", "\xED\xAF\xBF", "\xED\xB0\x80", "\xED\xBF\xBF", // halves
	"\xF4\x90", "\xF4\xBF", "\xF4\x90\x80\x80", "\xF5", "\xF5\x80\x80\x80", "\xF7\xBF\xBF\xBF", // above 10FFFF
	"\xF8", "\xF8\x88\x80\x80\x80", "\xFC\x84\x80\x80\x80\x80", "\xFE", "\xFF", "\xFF\xFF\xFF\xFF",
	"\xC3A", "\xC3\xC3", "\xC3\x7F", "\xC3\xC0", // they do not go on
	"\xE2A", "\xE2\x82A", "\xE2\x82\xC0", "\xE2\x82\x7F", "\xE2\x7F\x80",
	"\xF0\x9FA", "\xF0\x9F\x98A", "\xF0\x9F\x98\xC0", "\xF0\x9F\x7F", "\xF0\xC0",
}

func expectNext(t *testing.T, b string, r rune, n int, e api.Errno) {
	t.Helper()
	if gr, gn, ge := Next([]byte(b)); gr != r || gn != n || ge != e {
		t.Errorf("Next(% X) is %X, %d, %d, not %X, %d, %d", b, gr, gn, ge, r, n, e)
	}
}

// P2.1: Next of no bytes.
func TestNextOfNothing(t *testing.T) {
	expectNext(t, "", 0, 0, api.ErrNone)
	if r, n, e := Next(nil); r != 0 || n != 0 || e != api.ErrNone {
		t.Error("Next(nil)", r, n, e)
	}
}

// P2.1: Next of the runes at the edges, alone and with bytes behind them.
func TestNextAtEdges(t *testing.T) {
	for _, k := range edges {
		for _, behind := range []string{"", "a", "é", "\x80", "\xFF", "\xE2\x82", "\x00"} {
			expectNext(t, k.bytes+behind, k.r, len(k.bytes), api.OK)
		}
	}
}

// P2.1: Next of each beginning of a rune's bytes.
func TestNextWantsMore(t *testing.T) {
	for _, k := range edges {
		for n := 1; n < len(k.bytes); n++ {
			expectNext(t, k.bytes[:n], 0, 0, api.ErrMore)
		}
	}
	expectNext(t, "\xE2\x82", 0, 0, api.ErrMore)
	expectNext(t, "\xF0\x9F\x98", 0, 0, api.ErrMore)
}

// P2.1: Next of what is no rune, and can't become one.
func TestNextRefuses(t *testing.T) {
	for _, s := range nothing {
		expectNext(t, s, 0, 0, api.ErrForm)
		expectNext(t, s+"a", 0, 0, api.ErrForm)
	}
	expectNext(t, "\xE2\x41", 0, 0, api.ErrForm)
}

// begun marks bytes that are the beginning of a rune's, in kinds.
const begun = 9

// kinds has by up to three bytes what they are, found from all runes' bytes:
// whole ones' lengths, begun for their beginnings, 0 for all else.
func kinds() [4][]byte {
	var k [4][]byte
	for n := range k {
		k[n] = make([]byte, 1<<(8*n))
	}
	for r := rune(0); r <= utf8.MaxRune; r++ {
		if !utf8.ValidRune(r) {
			continue
		}
		b, at := utf8.AppendRune(nil, r), 0
		for i := 0; i < len(b) && i < 3; i++ {
			at = at<<8 | int(b[i])
			k[i+1][at] = begun
			if i+1 == len(b) {
				k[i+1][at] = byte(len(b))
			}
		}
	}
	return k
}

// P2.1: Next of all texts of up to three bytes.
func TestNextOfEveryShortText(t *testing.T) {
	k := kinds()
	for n := 1; n <= 3; n++ {
		for x := range 1 << (8 * n) {
			b := []byte{byte(x >> 16), byte(x >> 8), byte(x)}[3-n:]
			r, size, e := Next(b)
			wr, wsize, we := rune(0), 0, api.ErrForm
			for i := 1; i <= n; i++ {
				kind := k[i][x>>(8*(n-i))]
				if kind == begun && i == n {
					we = api.ErrMore
				}
				if int(kind) == i {
					wr, wsize = utf8.DecodeRune(b)
					we = api.OK
				}
			}
			if r != wr || size != wsize || e != we {
				t.Fatalf("Next(% X) is %X, %d, %d, not %X, %d, %d", b, r, size, e, wr, wsize, we)
			}
		}
	}
}

// P2.1: Next of texts of four bytes, all that stand at edges.
func TestNextOfFourBytes(t *testing.T) {
	tails := []byte{0x00, 0x41, 0x7F, 0x80, 0x81, 0x8F, 0x90, 0x9F, 0xA0, 0xBF, 0xC0, 0xC2, 0xE0, 0xF4, 0xFF}
	for c := 0xF0; c <= 0xFF; c++ {
		for second := range 256 {
			for _, third := range tails {
				for _, fourth := range tails {
					b := string([]byte{byte(c), byte(second), third, fourth})
					if r, n := utf8.DecodeRuneInString(b); n == 4 {
						expectNext(t, b, r, 4, api.OK)
					} else {
						expectNext(t, b, 0, 0, api.ErrForm)
					}
				}
			}
		}
	}
}

// P2.1: Next does not change what it is given.
func TestNextLeavesBytes(t *testing.T) {
	b := []byte("€\xFF")
	Next(b)
	if string(b) != "€\xFF" {
		t.Errorf("% X", b)
	}
}

// P2.1: Put of the runes at the edges.
func TestPutAtEdges(t *testing.T) {
	for _, k := range edges {
		if b, e := Put(k.r); string(b) != k.bytes || e != api.OK {
			t.Errorf("Put(%X) is % X, %d", k.r, b, e)
		}
	}
}

// P2.1: Put of numbers that are no runes.
func TestPutRefuses(t *testing.T) {
	for _, r := range []rune{-1, -2, -0x80, -0xD800, math.MinInt32, math.MinInt32 + 1, 0xD800, 0xD801, 0xDBFF, 0xDC00, 0xDFFE, 0xDFFF, 0x110000, 0x110001, 0x1FFFFF, 0x200000, 0x7FFFFFFE, math.MaxInt32} {
		if b, e := Put(r); len(b) != 0 || e != api.ErrArg {
			t.Errorf("Put(%X) is % X, %d", r, b, e)
		}
	}
}

// P2.1: Put of all numbers to some above the last rune; Next gives them back.
func TestPutOfEveryRune(t *testing.T) {
	for r := rune(-0x1000); r < utf8.MaxRune+0x1000; r++ {
		b, e := Put(r)
		if !utf8.ValidRune(r) {
			if len(b) != 0 || e != api.ErrArg {
				t.Fatalf("Put(%X) is % X, %d", r, b, e)
			}
			continue
		}
		if !bytes.Equal(b, utf8.AppendRune(nil, r)) || e != api.OK {
			t.Fatalf("Put(%X) is % X, %d", r, b, e)
		}
		if back, n, e := Next(b); back != r || n != len(b) || e != api.OK {
			t.Fatalf("Next of Put(%X) is %X, %d, %d", r, back, n, e)
		}
	}
}

// Rule 4: what is written into an answer of Put is seen by no later one.
func TestPutIsNew(t *testing.T) {
	for _, k := range edges {
		b, _ := Put(k.r)
		clear(b)
		_ = append(b[:0], "wxyz"...)
		if b, _ = Put(k.r); string(b) != k.bytes {
			t.Errorf("the second Put(%X) is % X", k.r, b)
		}
	}
}

func expectText(t *testing.T, s string, at int, valid bool, count int) {
	t.Helper()
	if Valid(s) != valid {
		t.Errorf("Valid(%q) is not %v", s, valid)
	}
	if got, bad := Bad(s); got != at || bad == valid {
		t.Errorf("Bad(%q) is %d, %v", s, got, bad)
	}
	want := api.OK
	if !valid {
		want = api.ErrForm
	}
	if n, e := Count(s); n != count || e != want {
		t.Errorf("Count(%q) is %d, %d", s, n, e)
	}
}

// P2.2: Valid, Bad and Count of texts that are valid.
func TestValidTexts(t *testing.T) {
	expectText(t, "", 0, true, 0)
	expectText(t, "a", 0, true, 1)
	expectText(t, "\x00", 0, true, 1)
	expectText(t, "aé€😀", 0, true, 4)
	expectText(t, "😀😀", 0, true, 2)
	expectText(t, "\uFFFD", 0, true, 1)
	all := ""
	for _, k := range edges {
		expectText(t, k.bytes, 0, true, 1)
		all += k.bytes
	}
	expectText(t, all, 0, true, len(edges))
	expectText(t, strings.Repeat(all, 1000), 0, true, 1000*len(edges))
}

// P2.2: Valid, Bad and Count of texts that are not, by where it goes wrong.
func TestTextsThatAreNotValid(t *testing.T) {
	for _, ahead := range []string{"", "a", "aé", "é€😀", "\x00"} {
		for _, s := range nothing {
			expectText(t, ahead+s, len(ahead), false, 0)
			expectText(t, ahead+s+"a", len(ahead), false, 0)
			expectText(t, ahead+s+"\xFF", len(ahead), false, 0)
		}
		for _, k := range edges {
			for n := 1; n < len(k.bytes); n++ {
				expectText(t, ahead+k.bytes[:n], len(ahead), false, 0)
				expectText(t, ahead+k.bytes[:n]+"a", len(ahead), false, 0)
				expectText(t, ahead+k.bytes[:n]+"€", len(ahead), false, 0)
			}
		}
	}
	expectText(t, "aé\xFF", 3, false, 0)
	expectText(t, "\xED\xA0\xBD\xED\xB8\x80", 0, false, 0)
}

// P2.2: Valid, Bad and Count of all texts of two bytes, and of long ones with
// one byte that is wrong.
func TestTextsByTheLibrary(t *testing.T) {
	for x := range 1 << 16 {
		s := string([]byte{byte(x >> 8), byte(x)})
		if utf8.ValidString(s) {
			expectText(t, s, 0, true, utf8.RuneCountInString(s))
		} else if s[0] < 0x80 {
			expectText(t, s, 1, false, 0)
		} else {
			expectText(t, s, 0, false, 0)
		}
	}
	long := strings.Repeat("aé€😀", 20)
	for at := range long {
		expectText(t, long[:at]+"\xFF"+long[at:], at, false, 0)
	}
}

// P2.2: Pair of two halves.
func TestPair(t *testing.T) {
	for _, k := range []struct{ hi, lo, want rune }{
		{0xD800, 0xDC00, 0x10000},
		{0xD800, 0xDFFF, 0x103FF},
		{0xD801, 0xDC00, 0x10400},
		{0xD83D, 0xDE00, 0x1F600},
		{0xDBFF, 0xDC00, 0x10FC00},
		{0xDBFF, 0xDFFF, 0x10FFFF},
	} {
		if r, ok := Pair(k.hi, k.lo); r != k.want || !ok {
			t.Errorf("Pair(%X, %X) is %X, %v", k.hi, k.lo, r, ok)
		}
		if r, ok := Pair(k.lo, k.hi); r != 0 || ok {
			t.Errorf("Pair(%X, %X), in the wrong order, is %X, %v", k.lo, k.hi, r, ok)
		}
	}
}

// P2.2: Pair gives each rune of four bytes, one behind the other.
func TestPairOfEveryTwoHalves(t *testing.T) {
	want := rune(0x10000)
	for hi := rune(0xD800); hi < 0xDC00; hi++ {
		for lo := rune(0xDC00); lo < 0xE000; lo++ {
			if r, ok := Pair(hi, lo); r != want || !ok {
				t.Fatalf("Pair(%X, %X) is %X, %v", hi, lo, r, ok)
			}
			want++
		}
	}
}

// P2.2: Pair of what is not a first half and a second one.
func TestPairRefuses(t *testing.T) {
	wrong := []rune{math.MinInt32, -1, 0, 'a', 0xD7FF, 0xE000, 0xFFFF, 0x10000, 0x1D800, 0x10FFFF, 0x110000, math.MaxInt32}
	expectNone := func(hi, lo rune) {
		t.Helper()
		if r, ok := Pair(hi, lo); r != 0 || ok {
			t.Errorf("Pair(%X, %X) is %X, %v", hi, lo, r, ok)
		}
	}
	for _, r := range wrong {
		expectNone(r, 0xDC00)
		expectNone(r, 0xDFFF)
		expectNone(0xD800, r)
		expectNone(0xDBFF, r)
		for _, other := range wrong {
			expectNone(r, other)
		}
	}
	expectNone(0xD800, 0xD800)
	expectNone(0xD800, 0xDBFF)
	expectNone(0xDBFF, 0xDBFF)
	expectNone(0xDC00, 0xDC00)
	expectNone(0xDFFF, 0xDFFF)
	expectNone(0xDC00, 0xD800)
}
