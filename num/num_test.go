package num

import (
	"math"
	"math/big"
	"strconv"
	"strings"
	"testing"

	"larum/api"
)

const (
	decimal = "0123456789"
	letters = "abcdefABCDEF"
)

// strangers are bytes and runes that no base takes as digits.
var strangers = []string{
	"+", ".", ",", "_", "/", ":", "@", "G", "`", "g", "x", "X", "o", "l", "O",
	"\x00", "\t", "\n", "\r", "\x7F", "\x80", "\xB0", "\xB9", "\xFF", "²", "٣", "０", "\u00A0",
}

func expectParse(t *testing.T, s string, n int64, e api.Errno) {
	t.Helper()
	if gn, ge := Parse(s); gn != n || ge != e {
		t.Errorf("Parse(%.40q) is %d, %d, not %d, %d", s, gn, ge, n, e)
	}
}

func expectSize(t *testing.T, s string, n int, e api.Errno) {
	t.Helper()
	if gn, ge := Size(s); gn != n || ge != e {
		t.Errorf("Size(%.40q) is %d, %d, not %d, %d", s, gn, ge, n, e)
	}
}

func expectHex(t *testing.T, s string, n int, e api.Errno) {
	t.Helper()
	if gn, ge := Hex(s); gn != n || ge != e {
		t.Errorf("Hex(%.40q) is %d, %d, not %d, %d", s, gn, ge, n, e)
	}
}

// expectForm: none of the three takes s.
func expectForm(t *testing.T, s string) {
	t.Helper()
	expectParse(t, s, 0, api.ErrForm)
	expectSize(t, s, 0, api.ErrForm)
	expectHex(t, s, 0, api.ErrForm)
}

// P3.1: Parse of ordinary numbers.
func TestParse(t *testing.T) {
	expectParse(t, "0", 0, api.OK)
	expectParse(t, "-0", 0, api.OK)
	expectParse(t, "7", 7, api.OK)
	expectParse(t, "-7", -7, api.OK)
	expectParse(t, "10", 10, api.OK)
	expectParse(t, "-100", -100, api.OK)
	expectParse(t, "1234567890", 1234567890, api.OK)
	expectParse(t, "-9876543210", -9876543210, api.OK)
	expectParse(t, "2147483648", 1<<31, api.OK)
	expectParse(t, "18014398509481984", 1<<54, api.OK)
}

// P3.1: Parse of what is not digits, noughts ahead among it.
func TestParseRefuses(t *testing.T) {
	for _, s := range []string{
		"", "-", "--", "--1", "-+1", "+1", "+", "+0", "1-", "1-1", "0-", "-0-",
		"00", "01", "-00", "-01", "000", "007", "0123456789", "-0000000000000000000",
		"00000000000000000001", "-09223372036854775808", "09223372036854775807",
		" 1", "1 ", "- 1", "1 2", " ", "1.0", "1e3", "1E3", "0x1", "0b1", "0o1", "1_000", "a", "f", "F", "1a", "a1",
	} {
		expectParse(t, s, 0, api.ErrForm)
	}
}

// P3.1: Parse at the least and the greatest number, and beyond them.
func TestParseAtBounds(t *testing.T) {
	expectParse(t, "9223372036854775806", math.MaxInt64-1, api.OK)
	expectParse(t, "9223372036854775807", math.MaxInt64, api.OK)
	expectParse(t, "9223372036854775808", 0, api.ErrLong)
	expectParse(t, "9223372036854775810", 0, api.ErrLong)
	expectParse(t, "9223372036854775817", 0, api.ErrLong)
	expectParse(t, "-9223372036854775807", math.MinInt64+1, api.OK)
	expectParse(t, "-9223372036854775808", math.MinInt64, api.OK)
	expectParse(t, "-9223372036854775809", 0, api.ErrLong)
	expectParse(t, "-9223372036854775810", 0, api.ErrLong)
	// Those at which 64 bits wrap round.
	expectParse(t, "18446744073709551615", 0, api.ErrLong)
	expectParse(t, "18446744073709551616", 0, api.ErrLong)
	expectParse(t, "18446744073709551617", 0, api.ErrLong)
	expectParse(t, "-18446744073709551616", 0, api.ErrLong)
	expectParse(t, "-18446744073709551617", 0, api.ErrLong)
	expectParse(t, "36893488147419103233", 0, api.ErrLong)
	expectParse(t, "10000000000000000000", 0, api.ErrLong)
	expectParse(t, "99999999999999999999", 0, api.ErrLong)
}

// P1, P3.1 and P3.2: what is no digit is told ahead of what is too great.
func TestFormIsToldAheadOfLength(t *testing.T) {
	long := strings.Repeat("9", 100)
	for _, s := range []string{long + "x", "x" + long, long + "-", long + " ", long + "." + long, long + "\xFF", long + "g"} {
		expectForm(t, s)
		expectParse(t, "-"+s, 0, api.ErrForm)
	}
	expectParse(t, "0"+long, 0, api.ErrForm)
	expectParse(t, "-0"+long, 0, api.ErrForm)
	expectParse(t, long+"a", 0, api.ErrForm)
	expectSize(t, long+"a", 0, api.ErrForm)
}

// P3.1 and P3.2: texts that are far too long.
func TestFarTooLong(t *testing.T) {
	for _, n := range []int{20, 21, 64, 1000, 1 << 20} {
		for _, d := range []string{"1", "4", "5", "8", "9"} {
			long := strings.Repeat(d, n)
			expectParse(t, long, 0, api.ErrLong)
			expectParse(t, "-"+long, 0, api.ErrLong)
			expectSize(t, long, 0, api.ErrLong)
			expectHex(t, long, 0, api.ErrLong)
		}
		expectHex(t, strings.Repeat("F", n), 0, api.ErrLong)
		nought := strings.Repeat("0", n)
		expectParse(t, "1"+nought, 0, api.ErrLong)
		expectSize(t, "1"+nought, 0, api.ErrLong)
		expectHex(t, "1"+nought, 0, api.ErrLong)
	}
}

// P3.1 and P3.2: a byte that is no digit, at each place.
func TestStrangersAtEachPlace(t *testing.T) {
	for _, x := range strangers {
		for at := range len("12345") + 1 {
			expectForm(t, "12345"[:at]+x+"12345"[at:])
		}
		expectForm(t, x)
		expectParse(t, "-"+x, 0, api.ErrForm)
	}
}

// P3.1 and P3.2: all texts of one byte.
func TestEveryByte(t *testing.T) {
	for i := range 256 {
		s := string([]byte{byte(i)})
		if at := strings.Index(decimal, s); at >= 0 {
			expectParse(t, s, int64(at), api.OK)
			expectParse(t, "-"+s, -int64(at), api.OK)
			expectSize(t, s, at, api.OK)
			expectHex(t, s, at, api.OK)
			continue
		}
		expectParse(t, s, 0, api.ErrForm)
		expectParse(t, "-"+s, 0, api.ErrForm)
		expectSize(t, s, 0, api.ErrForm)
		if at := strings.Index(letters, s); at >= 0 {
			expectHex(t, s, 10+at%6, api.OK)
		} else {
			expectHex(t, s, 0, api.ErrForm)
		}
	}
}

// P3.1 and P3.2: all texts of up to five of these bytes, against numbers of
// any size.
func TestEveryShortText(t *testing.T) {
	const of = "-019aF+x"
	texts := []string{""}
	for range 5 {
		var longer []string
		for _, s := range texts {
			for i := range len(of) {
				longer = append(longer, s+of[i:i+1])
			}
		}
		for _, s := range longer {
			expectByLibrary(t, s)
		}
		texts = longer
	}
}

// expectByLibrary holds the three to what the library says of digits.
func expectByLibrary(t *testing.T, s string) {
	t.Helper()
	digits := strings.TrimPrefix(s, "-")
	n, ok := ofDigits(digits, decimal, 10)
	switch {
	case !ok || len(digits) > 1 && digits[0] == '0':
		expectParse(t, s, 0, api.ErrForm)
	case strings.HasPrefix(s, "-"):
		expectParse(t, s, -n, api.OK)
	default:
		expectParse(t, s, n, api.OK)
	}
	if n, ok := ofDigits(s, decimal, 10); ok {
		expectSize(t, s, int(n), api.OK)
	} else {
		expectSize(t, s, 0, api.ErrForm)
	}
	if n, ok := ofDigits(s, decimal+letters, 16); ok {
		expectHex(t, s, int(n), api.OK)
	} else {
		expectHex(t, s, 0, api.ErrForm)
	}
}

func ofDigits(s, digits string, base int) (int64, bool) {
	if s == "" || strings.Trim(s, digits) != "" {
		return 0, false
	}
	n, ok := new(big.Int).SetString(s, base)
	if !ok {
		return 0, false
	}
	return n.Int64(), true
}

// P3.1: Print.
func TestPrint(t *testing.T) {
	for _, k := range []struct {
		n    int64
		want string
	}{
		{0, "0"},
		{1, "1"},
		{-1, "-1"},
		{9, "9"},
		{10, "10"},
		{-10, "-10"},
		{99, "99"},
		{100, "100"},
		{-101, "-101"},
		{1234567890, "1234567890"},
		{math.MaxInt32, "2147483647"},
		{math.MinInt32, "-2147483648"},
		{math.MaxInt64 - 1, "9223372036854775806"},
		{math.MaxInt64, "9223372036854775807"},
		{math.MinInt64 + 1, "-9223372036854775807"},
		{math.MinInt64, "-9223372036854775808"},
	} {
		if got := Print(k.n); got != k.want {
			t.Errorf("Print(%d) is %q", k.n, got)
		}
	}
}

// P3.2: Size, which takes noughts ahead, and no sign.
func TestSize(t *testing.T) {
	expectSize(t, "0", 0, api.OK)
	expectSize(t, "00", 0, api.OK)
	expectSize(t, "01", 1, api.OK)
	expectSize(t, "007", 7, api.OK)
	expectSize(t, "1234567890", 1234567890, api.OK)
	expectSize(t, strings.Repeat("0", 1000), 0, api.OK)
	expectSize(t, strings.Repeat("0", 1000)+"2147483647", math.MaxInt32, api.OK)
	expectSize(t, strings.Repeat("0", 1000)+"2147483648", 0, api.ErrLong)
	for _, s := range []string{"", "-", "-0", "-1", "+1", " 1", "1 ", "1.0", "a", "F", "1f", "0x1", "1_0", "-2147483649"} {
		expectSize(t, s, 0, api.ErrForm)
	}
}

// P3.2: Size at the greatest number, and beyond it.
func TestSizeAtBound(t *testing.T) {
	expectSize(t, "2147483646", math.MaxInt32-1, api.OK)
	expectSize(t, "2147483647", math.MaxInt32, api.OK)
	expectSize(t, "2147483648", 0, api.ErrLong)
	expectSize(t, "2147483650", 0, api.ErrLong)
	expectSize(t, "4294967296", 0, api.ErrLong)
	expectSize(t, "4294967297", 0, api.ErrLong)
	expectSize(t, "9223372036854775808", 0, api.ErrLong)
	expectSize(t, "18446744073709551616", 0, api.ErrLong)
	expectSize(t, "18446744073709551617", 0, api.ErrLong)
}

// P3.2: Hex, which takes letters of both kinds, and noughts ahead.
func TestHex(t *testing.T) {
	expectHex(t, "0", 0, api.OK)
	expectHex(t, "000", 0, api.OK)
	expectHex(t, "fF", 255, api.OK)
	expectHex(t, "Ff", 255, api.OK)
	expectHex(t, "00a", 10, api.OK)
	expectHex(t, "10", 16, api.OK)
	expectHex(t, "99", 0x99, api.OK)
	expectHex(t, "1aB2", 0x1AB2, api.OK)
	expectHex(t, "abcdef", 0xABCDEF, api.OK)
	expectHex(t, "ABCDEF", 0xABCDEF, api.OK)
	expectHex(t, "1234567", 0x1234567, api.OK)
	expectHex(t, strings.Repeat("0", 1000)+"7fffffff", math.MaxInt32, api.OK)
	expectHex(t, strings.Repeat("0", 1000)+"80000000", 0, api.ErrLong)
	for _, s := range []string{"", "-", "-0", "-a", "+a", "0x", "0x1", "0X1", "#1", "1h", "g", "G", "a g", " a", "a ", "a;", "é"} {
		expectHex(t, s, 0, api.ErrForm)
	}
}

// P3.2: Hex at the greatest number, and beyond it.
func TestHexAtBound(t *testing.T) {
	expectHex(t, "7ffffffe", math.MaxInt32-1, api.OK)
	expectHex(t, "7fffffff", math.MaxInt32, api.OK)
	expectHex(t, "7FFFFFFF", math.MaxInt32, api.OK)
	expectHex(t, "80000000", 0, api.ErrLong)
	expectHex(t, "ffffffff", 0, api.ErrLong)
	expectHex(t, "100000000", 0, api.ErrLong)
	expectHex(t, "100000001", 0, api.ErrLong)
	expectHex(t, "7fffffffffffffff", 0, api.ErrLong)
	expectHex(t, "8000000000000000", 0, api.ErrLong)
	expectHex(t, "10000000000000000", 0, api.ErrLong)
	expectHex(t, "10000000000000001", 0, api.ErrLong)
}

// P3.2: PutHex.
func TestPutHex(t *testing.T) {
	for _, k := range []struct {
		n    int
		want string
	}{
		{0, "0"},
		{1, "1"},
		{9, "9"},
		{10, "a"},
		{15, "f"},
		{16, "10"},
		{255, "ff"},
		{256, "100"},
		{0xABCDEF, "abcdef"},
		{0x10203040, "10203040"},
		{math.MaxInt32, "7fffffff"},
		{math.MaxInt - 1, "7" + strings.Repeat("f", strconv.IntSize/4-2) + "e"},
		{math.MaxInt, "7" + strings.Repeat("f", strconv.IntSize/4-1)},
		{-1, ""},
		{-16, ""},
		{math.MinInt32, ""},
		{math.MinInt + 1, ""},
		{math.MinInt, ""},
	} {
		if got := PutHex(k.n); got != k.want {
			t.Errorf("PutHex(%d) is %q, not %q", k.n, got, k.want)
		}
	}
}

// around has numbers at powers of 2 and 10 and beside them, of both signs.
func around() []int64 {
	var list []int64
	add := func(n int64) {
		for d := int64(-2); d <= 2; d++ {
			list = append(list, n+d, -n+d)
		}
	}
	for bits := range 64 {
		add(1 << bits)
	}
	for n := int64(1); ; n *= 10 {
		add(n)
		if n > math.MaxInt64/10 {
			return list
		}
	}
}

// P3.3: Parse of Print is the number.
func TestParseOfPrint(t *testing.T) {
	for n := int64(-70000); n <= 70000; n++ {
		expectParse(t, Print(n), n, api.OK)
	}
	for _, n := range around() {
		expectParse(t, Print(n), n, api.OK)
		if s := big.NewInt(n).String(); Print(n) != s {
			t.Errorf("Print(%s) is %q", s, Print(n))
		}
	}
}

// P3.3: Hex of PutHex is the number, up to 2^31 - 1, and too great above it.
func TestHexOfPutHex(t *testing.T) {
	for n := range 70000 {
		expectHex(t, PutHex(n), n, api.OK)
		expectHex(t, strings.ToUpper(PutHex(n)), n, api.OK)
	}
	for _, n := range around() {
		switch {
		case n < 0:
			expectHex(t, PutHex(int(n)), 0, api.ErrForm)
		case n <= math.MaxInt32:
			expectHex(t, PutHex(int(n)), int(n), api.OK)
			expectSize(t, Print(n), int(n), api.OK)
		default:
			expectHex(t, PutHex(int(n)), 0, api.ErrLong)
			expectSize(t, Print(n), 0, api.ErrLong)
		}
	}
}
