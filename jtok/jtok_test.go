package jtok

import (
	"encoding/json"
	"math"
	"slices"
	"strconv"
	"strings"
	"testing"
	"unicode/utf8"

	"larum/api"
)

const blanks = " \t\n\r"

func expectNext(t *testing.T, s string, at int, want Token) {
	t.Helper()
	if got, e := Next(s, at); got != want || e != api.OK {
		t.Errorf("Next(%.60q, %d) is %+v, %d, not %+v", s, at, got, e, want)
	}
}

func expectNone(t *testing.T, s string, at int, want api.Errno) {
	t.Helper()
	if got, e := Next(s, at); got != (Token{}) || e != want {
		t.Errorf("Next(%.60q, %d) is %+v, %d, not an error %d alone", s, at, got, e, want)
	}
}

// expectText: s in quotes, with other things around it or not, stands for want.
func expectText(t *testing.T, s, want string) {
	t.Helper()
	q := `"` + s + `"`
	expectNext(t, q, 0, Token{Kind: Text, To: len(q), Text: want})
	expectNext(t, "[ "+q+`,"x"`, 1, Token{Kind: Text, From: 2, To: 2 + len(q), Text: want})
	if got, e := Unquote(q); got != want || e != api.OK {
		t.Errorf("Unquote(%.60q) is %q, %d", q, got, e)
	}
}

// expectNoText: s in quotes is no text, and does not become one by a quote
// further behind.
func expectNoText(t *testing.T, s string) {
	t.Helper()
	for _, q := range []string{`"` + s + `"`, `"` + s + `" "x"`, `"x` + s + `y"`, `"` + s} {
		expectNone(t, q, 0, api.ErrForm)
		if got, e := Unquote(q); got != "" || e != api.ErrForm {
			t.Errorf("Unquote(%.60q) is %q, %d", q, got, e)
		}
		l, at, e := All("[ " + q)
		if len(l) != 1 || at != 2 || e != api.ErrForm {
			t.Errorf("All of [ and %.60q is %+v, %d, %d", q, l, at, e)
		}
	}
}

// P5.1: a token of each kind, with nothing, blanks and other tokens around it.
func TestNextOfEachKind(t *testing.T) {
	for _, k := range []struct {
		s    string
		want Token
	}{
		{"{", Token{Kind: Open}},
		{"}", Token{Kind: Close}},
		{"[", Token{Kind: List}},
		{"]", Token{Kind: End}},
		{":", Token{Kind: Colon}},
		{",", Token{Kind: Comma}},
		{`"a"`, Token{Kind: Text, Text: "a"}},
		{`""`, Token{Kind: Text}},
		{"17", Token{Kind: Number, N: 17}},
		{"true", Token{Kind: True}},
		{"false", Token{Kind: False}},
		{"null", Token{Kind: Null}},
	} {
		for _, ahead := range []string{"", " ", "\t", "\n", "\r", "\r\n\t  "} {
			for _, after := range []string{"", " ", "\n", ",", "]", "}", `"`, "{", ":", "\x00", "\xFF"} {
				want := k.want
				want.From, want.To = len(ahead), len(ahead)+len(k.s)
				expectNext(t, ahead+k.s+after, 0, want)
				want.From, want.To = 1+len(ahead), 1+len(ahead)+len(k.s)
				expectNext(t, "{"+ahead+k.s+after, 1, want)
			}
		}
	}
}

// P5.1: the kinds' numbers are those of the chapter.
func TestKinds(t *testing.T) {
	kinds := []int{Open, Close, List, End, Colon, Comma, Text, Number, True, False, Null}
	if !slices.Equal(kinds, []int{1, 2, 3, 4, 5, 6, 7, 8, 9, 10, 11}) {
		t.Error(kinds)
	}
}

// P5.1: places outside of the text, and at its end.
func TestNextAtPlaces(t *testing.T) {
	for _, s := range []string{"", "1", "  ", `{"a":1}`, "x"} {
		for _, at := range []int{math.MinInt, math.MinInt32, -2, -1, len(s) + 1, len(s) + 2, math.MaxInt32, math.MaxInt} {
			expectNone(t, s, at, api.ErrArg)
		}
		expectNone(t, s, len(s), api.ErrNone)
	}
	// A place within a token is as good as any.
	expectNext(t, "123", 1, Token{Kind: Number, From: 1, To: 3, N: 23})
	expectNext(t, `"a1"`, 2, Token{Kind: Number, From: 2, To: 3, N: 1})
	expectNone(t, "true", 1, api.ErrForm)
	expectNone(t, "é", 1, api.ErrForm)
}

// P5.1: nothing but blanks.
func TestNextOfBlanks(t *testing.T) {
	for _, s := range []string{"", " ", "\t", "\n", "\r", "\r\n", blanks, strings.Repeat(blanks, 1000)} {
		for _, at := range []int{0, len(s) / 2, len(s)} {
			expectNone(t, s, at, api.ErrNone)
		}
		expectNone(t, "1"+s, 1, api.ErrNone)
		expectNone(t, s+"x", 0, api.ErrForm)
	}
}

// P5.1: what each of the 256 bytes begins.
func TestNextOfEveryByte(t *testing.T) {
	for i := range 256 {
		s := string([]byte{byte(i)})
		switch at := strings.Index("{}[]:,", s); {
		case at >= 0:
			expectNext(t, s, 0, Token{Kind: at + 1, To: 1})
		case strings.Contains(blanks, s):
			expectNone(t, s, 0, api.ErrNone)
		case strings.Contains("0123456789", s):
			expectNext(t, s, 0, Token{Kind: Number, To: 1, N: int64(i - '0')})
		default:
			expectNone(t, s, 0, api.ErrForm)
			expectNone(t, " "+s+" ", 0, api.ErrForm)
		}
	}
	for _, s := range []string{"\u00A0", "\uFEFF", "\u2028", "é", "\v1", "\f1", "'a'", "//", "/**/", "(", "=", ";", "`a`", "_", "\\u0031"} {
		expectNone(t, s, 0, api.ErrForm)
	}
}

// P5.1: words, those that go on and those that stop short.
func TestWords(t *testing.T) {
	for _, s := range []string{
		"truer", "tru", "t", "true1", "truee", "True", "TRUE", "tRue", "falsey", "fals", "f", "false0", "FALSE",
		"nul", "nulll", "n", "null0", "Null", "nil", "undefined", "NaN", "Infinity", "x", "a1", "truefalse", "nulltrue",
	} {
		expectNone(t, s, 0, api.ErrForm)
		expectNone(t, " "+s+" ", 0, api.ErrForm)
		expectNone(t, s+",", 0, api.ErrForm)
	}
	// A word's bytes are letters and digits alone.
	for _, after := range []string{"-", "+1", ".", "-1", "_", "é", "\x00", "\xFF", "{", `"`, "/"} {
		expectNext(t, "true"+after, 0, Token{Kind: True, To: 4})
		expectNext(t, "false"+after, 0, Token{Kind: False, To: 5})
		expectNext(t, "null"+after, 0, Token{Kind: Null, To: 4})
	}
	expectNext(t, "nulltrue", 4, Token{Kind: True, From: 4, To: 8})
}

// P5.1: numbers, and the bytes that they have.
func TestNumbers(t *testing.T) {
	for _, n := range []int64{0, 1, -1, 9, 10, -10, 1234567890, -987654321, math.MaxInt64, math.MaxInt64 - 1, math.MinInt64, math.MinInt64 + 1} {
		s := strconv.FormatInt(n, 10)
		for _, after := range []string{"", " ", ",", "]", "}", ":", `"a"`, "_", "é", "\x00", "\xFF", "[", "/"} {
			expectNext(t, s+after, 0, Token{Kind: Number, To: len(s), N: n})
			expectNext(t, "[ "+s+after, 1, Token{Kind: Number, From: 2, To: 2 + len(s), N: n})
		}
	}
	expectNext(t, "-0", 0, Token{Kind: Number, To: 2})
}

// P5.1: numbers that are none, be it far behind their first digits.
func TestNumbersThatAreNone(t *testing.T) {
	for _, s := range []string{
		"01", "00", "-01", "-00", "1.5", "1.0", "0.0", "-1.5", "1.", ".5", "1e3", "1E3", "1e+3", "1e-3", "1E+3", "1e", "0e0",
		"+1", "+", "-", "--1", "-+1", "-.", "-a", "-true", "-null", "-x", ".", "1-", "1-2", "1+2", "1+", "0x1", "0a", "1true", "12null", "1z", "1Z",
		"9223372036854775808.0", "9223372036854775808e1", "99999999999999999999999x", "-99999999999999999999999-", "099999999999999999999",
	} {
		expectNone(t, s, 0, api.ErrForm)
		expectNone(t, " "+s+" ", 0, api.ErrForm)
		expectNone(t, s+",", 0, api.ErrForm)
	}
}

// P5.1: numbers beyond the least and the greatest one.
func TestNumbersThatAreTooLong(t *testing.T) {
	for _, s := range []string{
		"9223372036854775808", "-9223372036854775809", "18446744073709551616", "-18446744073709551616", "10000000000000000000",
		strings.Repeat("9", 1000), "-" + strings.Repeat("9", 1000), "1" + strings.Repeat("0", 100000),
	} {
		expectNone(t, s, 0, api.ErrLong)
		expectNone(t, "\n "+s+" ]", 0, api.ErrLong)
		expectNone(t, s+"_", 0, api.ErrLong)
		expectNone(t, s+".", 0, api.ErrForm)
	}
}

// P5.1: texts of bytes that stand for themselves.
func TestPlainTexts(t *testing.T) {
	for _, s := range []string{
		"", "a", " ", "abc def", "'", "/", "//", "\x7F", "{}[]:,", "true", "12", "é", "€", "😀", "aé€😀b", "\u0080", "\u07FF", "\u0800",
		"\uD7FF", "\uE000", "\uFFFD", "\uFEFF", "\uFFFF", "\U00010000", "\U0010FFFF", "\u2028\u2029", "\u00A0", "u0041",
		strings.Repeat("aé€😀", 1000),
	} {
		expectText(t, s, s)
	}
	for c := range utf8.RuneSelf {
		s := string(rune(c))
		switch {
		case c < 0x20:
			expectNoText(t, s)
		case c != '"' && c != '\\':
			expectText(t, s, s)
			expectText(t, "é"+s+"é", "é"+s+"é")
		}
	}
}

// P5.1: texts with bytes that are no rune's.
func TestTextsThatAreNotValid(t *testing.T) {
	for _, s := range []string{
		"\x80", "\xBF", "\xC0", "\xC1\x81", "\xC0\x80", "\xC3", "\xE2", "\xE2\x82", "\xE0\x80\x80", "\xED\xA0\x80", "\xED\xBF\xBF",
		"\xED\xA0\xBD\xED\xB8\x80", "\xF0\x9F\x98", "\xF0\x80\x80\x80", "\xF4\x90\x80\x80", "\xF5", "\xFE", "\xFF", "é\xFF", "\xFFé", "\xC3\\n\xA9",
	} {
		expectNoText(t, s)
	}
	// What a quote ends is not joined with what stands behind it.
	expectNone(t, "\"\xC3\"\xA9", 0, api.ErrForm)
}

// P5.1: texts that do not end.
func TestTextsThatDoNotEnd(t *testing.T) {
	for _, s := range []string{
		`"`, `"a`, `"a b`, `"\`, `"a\`, `"\"`, `"a\"`, `"\\\"`, `"\u`, `"\u1`, `"\u12`, `"\u123`, `"\u0041`, `"\ud83d`, `"\ud83d\`, `"\ud83d\u`,
		`"\ud83d\ude0`, `"\ud83d\ude00`, `"é`, "\"\xC3", `"]`, `" {}`, `"` + strings.Repeat("a", 100000),
	} {
		expectNone(t, s, 0, api.ErrForm)
		expectNone(t, " "+s, 0, api.ErrForm)
	}
}

// P5.1: each sign behind a \, and all bytes that are none.
func TestEscapes(t *testing.T) {
	stand := map[byte]string{'"': "\"", '\\': "\\", '/': "/", 'b': "\x08", 'f': "\x0C", 'n': "\x0A", 'r': "\x0D", 't': "\x09"}
	for i := range 256 {
		s := string([]byte{'\\', byte(i)})
		if want, ok := stand[byte(i)]; ok {
			expectText(t, s, want)
			expectText(t, "é"+s+"€", "é"+want+"€")
			expectText(t, s+s, want+want)
		} else {
			expectNoText(t, s)
		}
	}
	expectText(t, `\\n`, `\n`)
	expectText(t, `\\\"\\`, `\"\`)
	expectText(t, `é\n`, "é\n")
	expectText(t, `\"\\\/\b\f\n\r\t`, "\"\\/\b\f\n\r\t")
	expectNoText(t, "\\é")
}

// P5.1: \u and four digits, of every number that is a rune, and of each half
// alone.
func TestEveryUnit(t *testing.T) {
	const small, great = "0123456789abcdef", "0123456789ABCDEF"
	for n := range 1 << 16 {
		s, g := `"\u`, `"\u`
		for shift := 12; shift >= 0; shift -= 4 {
			s += small[n>>shift&15 : n>>shift&15+1]
			g += great[n>>shift&15 : n>>shift&15+1]
		}
		for _, q := range []string{s + `"`, g + `"`} {
			got, e := Next(q, 0)
			want, no := Token{Kind: Text, To: 8, Text: string(rune(n))}, api.OK
			if n >= 0xD800 && n <= 0xDFFF {
				want, no = Token{}, api.ErrForm
			}
			if got != want || e != no {
				t.Fatalf("Next(%s) is %+v, %d", q, got, e)
			}
		}
	}
}

// P5.1: \u with digits of great and small letters, with more behind it, with
// too few, and with what is no digit.
func TestUnits(t *testing.T) {
	expectText(t, `\u0041`, "A")
	expectText(t, `\u00e9\u00E9\u00Ee`, "ééî")
	expectText(t, `\u00411`, "A1")
	expectText(t, `a\u20acb`, "a€b")
	expectText(t, `\u0000`, "\x00")
	expectText(t, `\u0022\u005c\u000a`, "\"\\\n")
	expectText(t, `\uFFFD\uffff`, "\uFFFD\uFFFF")
	expectText(t, `\\u0041`, `\u0041`)
	for _, s := range []string{
		`\u`, `\u1`, `\u12`, `\u123`, `\u 041`, `\u004 `, `\u-041`, `\u+041`, `\u0x41`, `\u00g1`, `\u00G1`, `\u004_`, `\u00\u0041`, `\U0041`,
		`\u{41}`, `\u004\n`, "\\u004\x00", "\\u004\xFF", `\u00é`, `\x41`, `\041`, `\u004.`,
	} {
		expectNoText(t, s)
	}
}

// P5.1: halves, of which two in order alone are a rune.
func TestHalves(t *testing.T) {
	expectText(t, `\ud83d\ude00`, "😀")
	expectText(t, `\uD83D\uDE00`, "😀")
	expectText(t, `\uD800\uDC00`, "\U00010000")
	expectText(t, `\uD800\uDFFF`, "\U000103FF")
	expectText(t, `\uDBFF\uDC00`, "\U0010FC00")
	expectText(t, `\uDBFF\uDFFF`, "\U0010FFFF")
	expectText(t, `a\ud83d\ude00b\ud83d\ude00`, "a😀b😀")
	expectText(t, `\uD7FF\uE000`, "\uD7FF\uE000")
	for _, first := range []string{`\ud800`, `\uD83D`, `\udbff`} {
		for _, second := range []string{`\udc00`, `\uDE00`, `\udfff`} {
			expectNoText(t, first)
			expectNoText(t, second)
			expectNoText(t, second+first)
			expectNoText(t, first+first)
			expectNoText(t, second+second)
			expectNoText(t, first+"a"+second)
			expectNoText(t, first+" "+second)
			expectNoText(t, first+`\n`+second)
			expectNoText(t, first+`\\u`+second[2:])
			expectNoText(t, first+`u`+second[2:])
			expectNoText(t, first+`xu`+second[2:])
			expectNoText(t, first+`\x`+second[2:])
			expectNoText(t, first+`\U`+second[2:])
			expectNoText(t, first+second[:5])
			expectNoText(t, first+second+second)
			expectNoText(t, first+first+second)
			expectNoText(t, first+`\u0041`)
			expectNoText(t, first+`\u0000`)
			expectNoText(t, first+`\ue000`)
			expectNoText(t, first+"\xED\xB8\x80")
			expectNoText(t, "\xED\xA0\xBD"+second)
		}
	}
}

func expectAll(t *testing.T, s string, kinds []int, at int, e api.Errno) {
	t.Helper()
	l, gat, ge := All(s)
	var got []int
	from := 0
	for _, k := range l {
		got = append(got, k.Kind)
		if one, no := Next(s, from); one != k || no != api.OK {
			t.Errorf("All(%.60q) has %+v, where Next is %+v, %d", s, k, one, no)
		}
		from = k.To
	}
	if !slices.Equal(got, kinds) || gat != at || ge != e {
		t.Errorf("All(%.60q) is %v, %d, %d, not %v, %d, %d", s, got, gat, ge, kinds, at, e)
	}
}

// P5.2: All of texts that are right: their tokens need not be a value's.
func TestAll(t *testing.T) {
	expectAll(t, "", nil, 0, api.OK)
	expectAll(t, " \t\n\r", nil, 4, api.OK)
	expectAll(t, "1", []int{Number}, 1, api.OK)
	expectAll(t, " 1 ", []int{Number}, 3, api.OK)
	expectAll(t, `{"a":[1,{}]}`, []int{Open, Text, Colon, List, Number, Comma, Open, Close, End, Close}, 12, api.OK)
	expectAll(t, " true , false\n null", []int{True, Comma, False, Null}, 19, api.OK)
	expectAll(t, "]}:,", []int{End, Close, Colon, Comma}, 4, api.OK)
	expectAll(t, `"a""b"1"c"`, []int{Text, Text, Number, Text}, 10, api.OK)
	expectAll(t, "true-1", []int{True, Number}, 6, api.OK)
	expectAll(t, "1[", []int{Number, List}, 2, api.OK)
	l, _, _ := All(` { "a\n" : -5 } `)
	want := []Token{{Open, 1, 2, "", 0}, {Text, 3, 8, "a\n", 0}, {Colon, 9, 10, "", 0}, {Number, 11, 13, "", -5}, {Close, 14, 15, "", 0}}
	if !slices.Equal(l, want) {
		t.Errorf("%+v", l)
	}
}

// P5.2: All of texts that go wrong: what stood ahead, where, and which error.
func TestAllThatGoesWrong(t *testing.T) {
	expectAll(t, "x", nil, 0, api.ErrForm)
	expectAll(t, "  x", nil, 2, api.ErrForm)
	expectAll(t, "1 x 2", []int{Number}, 2, api.ErrForm)
	expectAll(t, "[1,\r\n 01, 2]", []int{List, Number, Comma}, 6, api.ErrForm)
	expectAll(t, `{"a": "b`, []int{Open, Text, Colon}, 6, api.ErrForm)
	expectAll(t, `["a", "b\x", "c"]`, []int{List, Text, Comma}, 6, api.ErrForm)
	expectAll(t, "[9223372036854775807, 9223372036854775808, x]", []int{List, Number, Comma}, 22, api.ErrLong)
	expectAll(t, "[x, 9223372036854775808]", []int{List}, 1, api.ErrForm)
	expectAll(t, "[nul, 1]", []int{List}, 1, api.ErrForm)
	expectAll(t, "1 \xFF", []int{Number}, 2, api.ErrForm)
	expectAll(t, "{}\x00", []int{Open, Close}, 2, api.ErrForm)
	expectAll(t, "1_", []int{Number}, 1, api.ErrForm)
	expectAll(t, "true_", []int{True}, 4, api.ErrForm)
	expectAll(t, "\uFEFF{}", nil, 0, api.ErrForm)
	many := strings.Repeat("[ ", 1000)
	l, at, e := All(many + "?" + many)
	if len(l) != 1000 || at != 2000 || e != api.ErrForm {
		t.Error(len(l), at, e)
	}
}

// P5.2: All of all texts of up to four parts, as Next tells them one by one.
func TestAllAsNextTells(t *testing.T) {
	parts := []string{" ", "{", ",", "1", "-", ".", "e", "true", "nul", "l", `"`, `\`, "u", "é", "\xC3", "\n", "\x01", "9223372036854775808"}
	texts := []string{""}
	for range 4 {
		var longer []string
		for _, s := range texts {
			for _, p := range parts {
				longer = append(longer, s+p)
			}
		}
		for _, s := range longer {
			expectAsNext(t, s)
		}
		texts = longer
	}
}

func expectAsNext(t *testing.T, s string) {
	t.Helper()
	l, end, e := All(s)
	at := 0
	for _, want := range l {
		if got, no := Next(s, at); got != want || no != api.OK {
			t.Fatalf("All(%q) has %+v, where Next is %+v, %d", s, want, got, no)
		}
		at = want.To
	}
	if e == api.OK {
		if _, no := Next(s, at); no != api.ErrNone || end != len(s) {
			t.Fatalf("All(%q) ends at %d, where Next has error %d", s, end, no)
		}
		return
	}
	from := len(s) - len(strings.TrimLeft(s[at:], blanks))
	if _, no := Next(s, at); no != e || end != from {
		t.Fatalf("All(%q) ends at %d with %d, where Next has error %d at %d", s, end, e, no, from)
	}
}

// Rule 4: what is written into an answer of All is seen by no later one.
func TestAllIsNew(t *testing.T) {
	l, _, _ := All("[1,2]")
	clear(l)
	_ = append(l[:1], Token{Kind: 99})
	expectAll(t, "[1,2]", []int{List, Number, Comma, Number, End}, 5, api.OK)
}

// P5.2: Unquote of what is not just one text.
func TestUnquoteRefuses(t *testing.T) {
	for _, s := range []string{
		"", " ", "a", "1", "true", "null", "{", "{}", `["a"]`, `"`, `"a`, `a"`, `"a" `, ` "a"`, "\n\"a\"", "\"a\"\n", `"a""b"`, `"a" "b"`, `"a"b`, `a"b"`,
		`"a",`, `"a""`, `"a\"`, `'a'`, "9223372036854775808", `"a"x`, "\"a\"\x00", "\"a\"\xFF", `""""`, `"\ud83d"`,
	} {
		if got, e := Unquote(s); got != "" || e != api.ErrForm {
			t.Errorf("Unquote(%q) is %q, %d", s, got, e)
		}
	}
}

func expectQuote(t *testing.T, s, want string) {
	t.Helper()
	if got, e := Quote(s); got != want || e != api.OK {
		t.Errorf("Quote(%.60q) is %s, %d, not %s", s, got, e, want)
	}
}

// P5.2: Quote of ordinary texts.
func TestQuote(t *testing.T) {
	expectQuote(t, "", `""`)
	expectQuote(t, "a", `"a"`)
	expectQuote(t, "a b", `"a b"`)
	expectQuote(t, `"`, `"\""`)
	expectQuote(t, `\`, `"\\"`)
	expectQuote(t, `\"\\n`, `"\\\"\\\\n"`)
	expectQuote(t, "/", `"/"`)
	expectQuote(t, "<&>'", `"<&>'"`)
	expectQuote(t, "\x7F", "\"\x7F\"")
	expectQuote(t, "é€😀", `"é€😀"`)
	expectQuote(t, "\u0080\u2028\u2029\uFEFF\uFFFD\uFFFF\U0010FFFF", "\"\u0080\u2028\u2029\uFEFF\uFFFD\uFFFF\U0010FFFF\"")
	expectQuote(t, "a\nb", `"a\nb"`)
	expectQuote(t, "é\x00é\x1Fé", `"é\u0000é\u001fé"`)
}

// P5.2: Quote of each byte below 20, and of all others of one byte.
func TestQuoteOfEachByte(t *testing.T) {
	low := []string{
		`\u0000`, `\u0001`, `\u0002`, `\u0003`, `\u0004`, `\u0005`, `\u0006`, `\u0007`, `\b`, `\t`, `\n`, `\u000b`, `\f`, `\r`, `\u000e`, `\u000f`,
		`\u0010`, `\u0011`, `\u0012`, `\u0013`, `\u0014`, `\u0015`, `\u0016`, `\u0017`, `\u0018`, `\u0019`, `\u001a`, `\u001b`, `\u001c`, `\u001d`, `\u001e`, `\u001f`,
	}
	for c := range utf8.RuneSelf {
		s := string(rune(c))
		want := s
		switch {
		case c < len(low):
			want = low[c]
		case c == '"' || c == '\\':
			want = `\` + s
		}
		expectQuote(t, s, `"`+want+`"`)
		expectQuote(t, "a"+s+s+"é", `"a`+want+want+`é"`)
	}
}

// P5.2: Quote of texts that are not valid.
func TestQuoteRefuses(t *testing.T) {
	for _, s := range []string{"\x80", "\xFF", "a\xFF", "\xFFa", "\xC3", "\xE2\x82", "\xED\xA0\x80", "\xF4\x90\x80\x80", "\xC0\x80", "é\xA9", "\"\xFF\"", "\n\xFE"} {
		if got, e := Quote(s); got != "" || e != api.ErrForm {
			t.Errorf("Quote(%q) is %q, %d", s, got, e)
		}
	}
}

// P5.3: Unquote of Quote is the text, of every rune and of rows of them; the
// library reads it so, too.
func TestUnquoteOfQuote(t *testing.T) {
	for r := rune(0); r <= utf8.MaxRune; r++ {
		if utf8.ValidRune(r) {
			expectBack(t, string(r))
		}
	}
	signs := []string{"", "\"", "\\", "/", "\b", "\x00", "\x1F", " ", "u", "u0041", "\x7F", "é", "😀", "\uFFFD"}
	for _, a := range signs {
		for _, b := range signs {
			for _, c := range signs {
				s := a + b + c
				expectBack(t, s)
				q, _ := Quote(s)
				var got string
				if err := json.Unmarshal([]byte(q), &got); err != nil || got != s {
					t.Fatalf("the library reads %s as %q, %v", q, got, err)
				}
			}
		}
	}
	expectBack(t, strings.Repeat("a\"é\\\n\x01😀", 10000))
}

func expectBack(t *testing.T, s string) {
	t.Helper()
	q, e := Quote(s)
	if e != api.OK {
		t.Fatalf("Quote(%.60q) has error %d", s, e)
	}
	if got, e := Unquote(q); got != s || e != api.OK {
		t.Fatalf("Unquote(%.60s) is %.60q, %d", q, got, e)
	}
}

// P1: no call panics, whatever the bytes; and what is read lies within the text.
func FuzzTokens(f *testing.F) {
	for _, s := range []string{"", `{"a\u00e9":[-12,true,null]} x`, `"\ud83d\ude00"`, "\"\xFF", "1e5", blanks} {
		f.Add(s, 0)
	}
	f.Fuzz(func(t *testing.T, s string, at int) {
		if k, e := Next(s, at); e == api.OK && (k.From < at || k.To <= k.From || k.To > len(s)) {
			t.Errorf("Next(%q, %d) is %+v", s, at, k)
		}
		expectAsNext(t, s)
		if q, e := Quote(s); (e == api.OK) != utf8.ValidString(s) {
			t.Errorf("Quote(%q) is %q, %d", s, q, e)
		} else if e == api.OK {
			expectBack(t, s)
		}
		Unquote(s)
	})
}
