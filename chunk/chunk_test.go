package chunk

import (
	"math"
	"math/big"
	"math/rand"
	"regexp"
	"strconv"
	"strings"
	"testing"

	"larum/head"
)

// wide are limits that ordinary bodies are far from.
var wide = head.Limits{Line: 8192, Fields: 100, Body: 1048576}

// small are limits that are met soon.
var small = head.Limits{Line: 16, Fields: 2, Body: 6}

// lines: the lines with an end behind each.
func lines(l ...string) string {
	var b strings.Builder
	for _, line := range l {
		b.WriteString(line + "\r\n")
	}
	return b.String()
}

func expectSize(t *testing.T, line string, most, size, status int) {
	t.Helper()
	if gs, gst := Size(line, most); gs != size || gst != status {
		t.Errorf("Size(%.200q, %d) is %d, %d, not %d, %d", line, most, gs, gst, size, status)
	}
}

// expectBody: s is a body in chunks, alone and with whatever behind it; at
// each of its beginnings more is needed.
func expectBody(t *testing.T, s string, l head.Limits, want string) {
	t.Helper()
	for _, behind := range []string{"", "\r", "\n", "\r\n", "\r\n\r\n", "x", "0\r\n", "a: b\r\n\r\n", "GET / HTTP/1.1\r\n", "\x00\xFF", s} {
		if body, n, status := Parse(s+behind, l); body != want || n != len(s) || status != 0 {
			t.Errorf("Parse(%.200q, %+v) is %.100q, %d, %d, not %.100q, %d", s+behind, l, body, n, status, want, len(s))
		}
	}
	for i := range min(len(s), 200) {
		expectStatus(t, s[:i], l, head.More)
		expectStatus(t, s[:len(s)-1-i], l, head.More)
	}
}

// expectStatus: s tells a status, and so it does with whatever behind it, if
// that is not More.
func expectStatus(t *testing.T, s string, l head.Limits, want int) {
	t.Helper()
	behinds := []string{"", "\r", "\n", "\r\n", "\r\n\r\n", "x", "0\r\n\r\n", "\x00\xFF", strings.Repeat("x", 9000)}
	if want == head.More {
		behinds = behinds[:1]
	}
	for _, behind := range behinds {
		if body, n, status := Parse(s+behind, l); body != "" || n != 0 || status != want {
			t.Errorf("Parse(%.200q, %+v) is %.100q, %d, %d, not %d alone", s+behind, l, body, n, status, want)
		}
	}
}

// expectFirst: s tells a status with its last byte, and not ahead of that.
func expectFirst(t *testing.T, s string, l head.Limits, want int) {
	t.Helper()
	expectStatus(t, s, l, want)
	for i := range len(s) {
		expectStatus(t, s[:i], l, head.More)
	}
}

// P11.1: Size of right lines: small and great digits, noughts ahead, blanks
// and a semicolon.
func TestSize(t *testing.T) {
	for _, k := range []struct {
		line string
		size int
	}{
		{"0", 0}, {"00", 0}, {"3", 3}, {"9", 9}, {"10", 16}, {"a", 10}, {"f", 15}, {"A", 10}, {"F", 15}, {"fF", 255}, {"1aB", 427}, {"0123", 0x123}, {"bcde", 0xbcde}, {"BCDE", 0xbcde}, {"45678", 0x45678},
		{"0000000000000000000000000000000000000000a", 10}, {"7fffffff", 1<<31 - 1}, {"7FFFFFFF", 1<<31 - 1}, {"00007fffffff", 1<<31 - 1},
		{"3;", 3}, {"3;x", 3}, {"3;x=y", 3}, {"3 ;x", 3}, {"3\t;x", 3}, {"3 \t  ;x", 3}, {"3; x ", 3}, {"3;;", 3}, {"3;;x;y", 3}, {"3 ; ; x", 3}, {"3;\t", 3}, {"3; ", 3}, {"3;4", 3}, {"3;" + "\"a b\"", 3}, {"0;x", 0}, {"0 ;", 0}, {"000\t;", 0}, {"fF ;\x80\xFFé", 255},
	} {
		expectSize(t, k.line, math.MaxInt, k.size, 0)
		expectSize(t, k.line, k.size, k.size, 0)
		expectSize(t, k.line, k.size+1, k.size, 0)
		expectSize(t, k.line, k.size-1, 0, 413)
	}
}

// P11.1: 400: no digit, blanks and no semicolon, other bytes; at any most, and
// where the digits are too great as well.
func TestSizeOfWrongLines(t *testing.T) {
	for _, line := range []string{
		"", ";", ";3", " ;3", "; 3", " ", "\t", "x", "g", "G", "x;", "3x", "x3", "3g;", "-", "-1", "+1", "-0", "0x1", "0X1", "1_0", "1.0", "1,0", "3h",
		"3 ", "3\t", " 3", "\t3", " 3;", "\t3;x", "3 3", "3 x", "3 x;y", "3 3;", "3 , ;", "3 =;", "3:", "3:x", "3=x", "3,x;", "٣", "\xFF", "3\xFF", "3\xFF;",
		"3\r", "3\n", "3\r\n", "\r3", "\n3", "3\r;x", "3\n;x", "3;\r", "3;\n", "3;\r\n", "3;x\r\ny", "3;x\ny", "3\v;x", "3\f;", "3\x00", "3\x00;", "3;\x00", "3;\x7F", "3;x\x1Fy", "3;x\x0B", "3 ;x\x08", "3\xA0;x",
		"ffffffff ", " ffffffff", "ffffffffx", "fffffffffffffffffg", "gffffffffffffffff", "ffffffff;\x00", "80000000;\r", "99999999999999999999999999999 9", "-ffffffffff",
	} {
		for _, most := range []int{math.MinInt, -1, 0, 2, 3, 100, math.MaxInt} {
			expectSize(t, line, most, 0, 400)
		}
	}
}

// P11.1: 413: above most, above 2^31 - 1.
func TestSizeAtMost(t *testing.T) {
	for _, most := range []int{0, 1, 15, 16, 4096, 1048576, 1<<31 - 2} {
		just, more := strconv.FormatInt(int64(most), 16), strconv.FormatInt(int64(most)+1, 16)
		for _, behind := range []string{"", ";", " ;x"} {
			expectSize(t, just+behind, most, most, 0)
			expectSize(t, "000"+strings.ToUpper(just)+behind, most, most, 0)
			expectSize(t, more+behind, most, 0, 413)
			expectSize(t, "000"+strings.ToUpper(more)+behind, most, 0, 413)
		}
	}
	for _, line := range []string{"80000000", "80000001", "FFFFFFFF", "100000000", "100000001", "7fffffffffffffff", "8000000000000000", "ffffffffffffffff", "10000000000000000", "10000000000000003", strings.Repeat("f", 100), "1" + strings.Repeat("0", 100), "000080000000;x"} {
		for _, most := range []int{math.MinInt, -1, 0, 3, 1<<31 - 1, 1 << 31, 1 << 40, math.MaxInt} {
			expectSize(t, line, most, 0, 413)
		}
	}
	for _, most := range []int{-1, -2, -1 << 31, math.MinInt} {
		for _, line := range []string{"0", "000", "0;x", "1", "7fffffff"} {
			expectSize(t, line, most, 0, 413)
		}
	}
}

// P11.1: each byte as a digit, ahead of one and behind it, behind a blank, and
// behind the semicolon.
func TestEveryByteInSizeLine(t *testing.T) {
	for c := range 256 {
		x := string([]byte{byte(c)})
		d, err := strconv.ParseUint(x, 16, 8)
		switch {
		case err == nil:
			expectSize(t, x, 999, int(d), 0)
			expectSize(t, x+"1", 999, int(d)*16+1, 0)
			expectSize(t, "1"+x, 999, 16+int(d), 0)
			expectSize(t, "1"+x+"1;", 999, 257+int(d)*16, 0)
		case x == ";":
			expectSize(t, x, 999, 0, 400)
			expectSize(t, x+"1", 999, 0, 400)
			expectSize(t, "1"+x, 999, 1, 0)
			expectSize(t, "1"+x+"1", 999, 1, 0)
		default:
			for _, line := range []string{x, x + "1", "1" + x, "1" + x + "1", x + "1;", "1" + x + "1;"} {
				expectSize(t, line, 999, 0, 400)
			}
		}
		if strings.Contains(" \t;", x) {
			expectSize(t, "1 "+x+"\t;", 999, 1, 0)
			expectSize(t, "1"+x+";", 999, 1, 0)
		} else {
			expectSize(t, "1 "+x+"\t;", 999, 0, 400)
		}
		for _, behind := range []string{x, x + "y", "y" + x, "y" + x + "y", ";" + x} {
			if c == 9 || 0x20 <= c && c <= 0x7E || c >= 0x80 {
				expectSize(t, "1;"+behind, 999, 1, 0)
			} else {
				expectSize(t, "1;"+behind, 999, 0, 400)
			}
		}
	}
}

// P11.2: Parse of right bodies.
func TestParse(t *testing.T) {
	expectBody(t, lines("3;x", "abc", "0", ""), wide, "abc")
	expectBody(t, lines("0", ""), wide, "")
	expectBody(t, lines("000", ""), wide, "")
	expectBody(t, lines("0 ;x=y", ""), wide, "")
	expectBody(t, lines("3", "abc", "003 ;x=y", "def", "0", "A: b", ""), wide, "abcdef")
	expectBody(t, lines("1", "a", "1", "b", "1", "c", "0", ""), wide, "abc")
	expectBody(t, lines("a", "0123456789", "0", ""), wide, "0123456789")
	expectBody(t, lines("A", "0123456789", "00010", "0123456789abcdef", "0", ""), wide, "01234567890123456789abcdef")
	// Fields.
	expectBody(t, lines("0", "a:b", "A:b", "Host: x", "Content-Length: 7", "X:", "!#$%&'*+-.^_`|~9: \té\xFF", ""), wide, "")
	// Bytes that are signs elsewhere.
	expectBody(t, lines("2", "\r\n", "0", ""), wide, "\r\n")
	expectBody(t, lines("4", "\r\n\r\n", "5", "0\r\n\r\n", "0", ""), wide, "\r\n\r\n0\r\n\r\n")
	expectBody(t, lines("1", "\r", "1", "\n", "2", "\n\r", "0", ""), wide, "\r\n\n\r")
	expectBody(t, lines("7", "\x00\xFF\x80é;:", "0", ""), wide, "\x00\xFF\x80é;:")
	long := strings.Repeat("0123456789abcdef", 0x1234)
	expectBody(t, lines("12340", long, "1", "x", "0", ""), wide, long+"x")
}

// P11.2, P11.4: each status is told with the first byte that brings it, and
// with whatever behind it.
func TestStatusesComeWithTheirFirstByte(t *testing.T) {
	// A size's line that is none, with its end; one that is too long, at once.
	for _, line := range []string{"", "x", ";", " 3", "3 ", "3x", "-1", "3;\n", "3\n", "3\r", "\n", "\r", "fffffffffg"} {
		expectFirst(t, lines(line), small, 400)
		expectFirst(t, lines("3", "abc", line), small, 400)
		expectFirst(t, lines("1", "a", "1", "b", line), small, 400)
	}
	for _, long := range []string{strings.Repeat("0", 18), strings.Repeat("x", 18), "3;" + strings.Repeat(" ", 16), strings.Repeat("\n", 18), strings.Repeat("0", 17) + "\n", strings.Repeat("\r", 18)} {
		expectFirst(t, long, small, 400)
		expectFirst(t, lines("3", "abc")+long, small, 400)
	}
	// A size above what is left.
	for _, line := range []string{"7", "07", "F", "10", "7;x", "7fffffff", "80000000", "fffffffffffff"} {
		expectFirst(t, lines(line), small, 413)
		expectFirst(t, lines("3", "abc", line), small, 413)
	}
	// No end behind a chunk's bytes.
	for _, behind := range []string{"d", "\n", "0", "\x00", "\xFF", " ", ";", "\rd", "\r\r", "\r0", "\r ", "\r\x00", "\r\xFF"} {
		expectFirst(t, "3\r\nabc"+behind, small, 400)
		expectFirst(t, lines("3", "abc", "2")+"de"+behind, small, 400)
	}
	// Lines behind the last chunk.
	for _, line := range []string{"x", ":x", " a:b", "a b:c", "a :b", "a:\n", "\n", "\r", "a:b\r", "a:\x00", "é:b", "0"} {
		for _, ahead := range []string{lines("0"), lines("3", "abc", "000;x"), lines("0", "a:b"), lines("1", "a", "0", "a:b")} {
			expectFirst(t, ahead+line+"\r\n", small, 400)
		}
	}
	for _, long := range []string{strings.Repeat("x", 18), "a:" + strings.Repeat("b", 16), strings.Repeat("\n", 18), "a:" + strings.Repeat("b", 15) + "\r"} {
		for _, ahead := range []string{lines("0"), lines("3", "abc", "0"), lines("0", "a:b"), lines("0", "a:b", "c:d")} {
			expectFirst(t, ahead+long, small, 431)
		}
	}
	for _, line := range []string{"e:f", "x", "\n", " ", "e:\x00"} {
		expectFirst(t, lines("0", "a:b", "c:d", line), small, 431)
		expectFirst(t, lines("3", "abc", "0", "a:b", "c:d", line), small, 431)
	}
}

// P11.2: behind a chunk's bytes: nothing, a D, both, other bytes.
func TestEveryByteBehindChunk(t *testing.T) {
	const ahead = "3\r\nabc"
	expectStatus(t, ahead[:len(ahead)-1], wide, head.More)
	expectStatus(t, ahead, wide, head.More)
	expectStatus(t, ahead+"\r", wide, head.More)
	expectStatus(t, ahead+"\r\n", wide, head.More)
	for c := range 256 {
		if x := string([]byte{byte(c)}); x != "\r" {
			expectStatus(t, ahead+x, wide, 400)
		}
		if x := string([]byte{byte(c)}); x != "\n" {
			expectStatus(t, ahead+"\r"+x, wide, 400)
		}
	}
}

// P11.2: lines of just Line bytes, and of one more: with an end, and without.
func TestLinesAtMost(t *testing.T) {
	for _, most := range []int{16, 17, 40, 8191, 8192} {
		l := head.Limits{Line: most, Fields: 2, Body: 6}
		nought := strings.Repeat("0", most-1)
		words := "3;" + strings.Repeat("x", most-2)
		field := "a:" + strings.Repeat("b", most-2)
		expectBody(t, lines(nought+"3", "abc", nought+"2", "de", nought+"0", ""), l, "abcde")
		expectBody(t, lines(words, "abc", "0", field, field, ""), l, "abc")
		for _, long := range []string{"0" + nought + "3", words + "x", nought + "\n3", words + "\r", nought + "03 "} {
			for _, ahead := range []string{"", lines("3", "abc")} {
				expectStatus(t, ahead+long+"\r\n", l, 400)
				expectStatus(t, ahead+long[:most], l, head.More)
				expectStatus(t, ahead+long[:most]+"x", l, head.More)
				expectStatus(t, ahead+long[:most]+"\r", l, head.More)
				expectStatus(t, ahead+long[:most]+"xx", l, 400)
				expectStatus(t, ahead+long[:most]+"x\r", l, 400)
			}
		}
		for _, ahead := range []string{lines("0"), lines("0", "a:b"), lines("0", "a:b", "c:d"), lines("1", "a", "0")} {
			expectStatus(t, ahead+field+"b\r\n", l, 431)
			expectStatus(t, ahead+field, l, head.More)
			expectStatus(t, ahead+field+"b", l, head.More)
			expectStatus(t, ahead+field+"\r", l, head.More)
			expectStatus(t, ahead+field+"bb", l, 431)
			expectStatus(t, ahead+field+"b\r", l, 431)
		}
	}
}

// P11.2: Body is for all chunks together, and is told with a size's line.
func TestBodyAtMost(t *testing.T) {
	expectBody(t, lines("6", "abcdef", "0", ""), small, "abcdef")
	expectBody(t, lines("3", "abc", "3", "def", "0", ""), small, "abcdef")
	expectBody(t, lines("1", "a", "4", "bcde", "1", "f", "00;", ""), small, "abcdef")
	expectStatus(t, lines("7"), small, 413)
	expectStatus(t, lines("6", "abcdef", "1"), small, 413)
	expectStatus(t, lines("3", "abc", "4"), small, 413)
	expectStatus(t, lines("3", "abc", "4", "defg", "0", ""), small, 413)
	expectStatus(t, lines("4", "abcd", "3"), small, 413)
	expectStatus(t, lines("1", "a", "4", "bcde", "2"), small, 413)
	expectStatus(t, lines("2", "ab", "2", "cd", "2", "ef", "2"), small, 413)
	none := head.Limits{Line: 16, Fields: 1, Body: 0}
	expectBody(t, lines("0", ""), none, "")
	expectBody(t, lines("0", "a:b", ""), none, "")
	expectStatus(t, lines("1"), none, 413)
}

// P11.2: Fields of them behind the last chunk, and one more.
func TestFieldsAtMost(t *testing.T) {
	for _, most := range []int{1, 2, 3, 99, 100} {
		l := head.Limits{Line: 16, Fields: most, Body: 6}
		for _, ahead := range []string{"0\r\n", "3\r\nabc\r\n0\r\n"} {
			want := ""
			if len(ahead) > 3 {
				want = "abc"
			}
			just := ahead + strings.Repeat("a: b\r\n", most)
			expectBody(t, just+"\r\n", l, want)
			expectBody(t, ahead+strings.Repeat("a: b\r\n", most-1)+"\r\n", l, want)
			expectStatus(t, just+"c", l, head.More)
			expectStatus(t, just+"c:d\r\n", l, 431)
			expectStatus(t, just+"c:d\r\n\r\n", l, 431)
			expectStatus(t, just+"cd\r\n", l, 431)
			expectStatus(t, ahead+strings.Repeat("a: b\r\n", most-1)+"cd\r\n", l, 400)
		}
	}
}

// P11.2: of two things that are wrong the one that is met first is told.
func TestFirstThingIsTold(t *testing.T) {
	long := strings.Repeat("0", 18)
	wrong := []struct {
		s    string
		want int
	}{
		{lines("x"), 400}, {lines("7"), 413}, {lines("ffffffffff"), 413}, {lines(long), 400}, {"3\r\nabcd", 400}, {"3\r\nabc\rd", 400}, {"1\r\na\n", 400},
		{lines("0", "x"), 400}, {lines("0", "a:"+long), 431}, {lines("0", "a:b", "c:d", "e:f"), 431}, {lines("0", "a:b", "c:d", "x"), 431}, {lines("0", long+"\n"), 431},
	}
	for _, first := range wrong {
		for _, ahead := range []struct{ s, body string }{{"", ""}, {lines("1", "z"), "z"}, {lines("1", "y", "1", "z"), "yz"}} {
			expectStatus(t, ahead.s+first.s, small, first.want)
			expectBody(t, ahead.s+lines("0", ""), small, ahead.body)
			for _, behind := range wrong {
				expectStatus(t, ahead.s+first.s+behind.s, small, first.want)
				expectStatus(t, ahead.s+first.s+"\r\n"+behind.s, small, first.want)
			}
		}
	}
	// In one line: bad ahead of too large, too many ahead of no field.
	expectStatus(t, lines("7 "), small, 400)
	expectStatus(t, lines("7\n"), small, 400)
	expectStatus(t, lines(strings.Repeat("7", 17)), small, 400)
	expectStatus(t, lines("0", "a:b", "c:d", "\r"), small, 431)
}

// P11.2: limits below and above their bounds are taken as the nearest ones.
func TestParseTakesLimitsWithinBounds(t *testing.T) {
	for _, n := range []int{math.MinInt, -1, 0} {
		l := head.Limits{Line: n, Fields: n, Body: n}
		expectBody(t, lines(strings.Repeat("0", 16), "a:"+strings.Repeat("b", 14), ""), l, "")
		expectStatus(t, lines(strings.Repeat("0", 17)), l, 400)
		expectStatus(t, lines("0", "a:b", "c:d"), l, 431)
		expectStatus(t, lines("1"), l, 413)
	}
	most := strings.Repeat("x", 1048576)
	for _, l := range []head.Limits{{Line: 8193, Fields: 101, Body: 1048577}, {Line: math.MaxInt, Fields: math.MaxInt, Body: math.MaxInt}} {
		fields := strings.Repeat("a:b\r\n", 99) + "a:" + strings.Repeat("b", 8190) + "\r\n"
		expectBody(t, lines(strings.Repeat("0", 8186)+"100000", most, "0")+fields+"\r\n", l, most)
		expectStatus(t, strings.Repeat("0", 8194), l, 400)
		expectStatus(t, lines("0")+fields+"c:d\r\n", l, 431)
		expectStatus(t, lines("0", strings.Repeat("a", 8193)), l, 431)
		expectStatus(t, lines("100001"), l, 413)
		expectStatus(t, lines("80000000"), l, 413)
		expectStatus(t, lines("100000", most, "1"), l, 413)
	}
}

// P11.3: Encode: nothing, sizes below 1, of just the length, of more.
func TestEncode(t *testing.T) {
	for _, k := range []struct {
		body string
		size int
		want string
	}{
		{"", 1, lines("0", "")},
		{"", 0, lines("0", "")},
		{"", math.MinInt, lines("0", "")},
		{"", math.MaxInt, lines("0", "")},
		{"abcde", 3, lines("3", "abc", "2", "de", "0", "")},
		{"abcde", 2, lines("2", "ab", "2", "cd", "1", "e", "0", "")},
		{"abcde", 1, lines("1", "a", "1", "b", "1", "c", "1", "d", "1", "e", "0", "")},
		{"abcde", 0, lines("1", "a", "1", "b", "1", "c", "1", "d", "1", "e", "0", "")},
		{"abc", -1, lines("1", "a", "1", "b", "1", "c", "0", "")},
		{"abc", math.MinInt, lines("1", "a", "1", "b", "1", "c", "0", "")},
		{"abcde", 4, lines("4", "abcd", "1", "e", "0", "")},
		{"abcde", 5, lines("5", "abcde", "0", "")},
		{"abcde", 6, lines("5", "abcde", "0", "")},
		{"abcde", math.MaxInt, lines("5", "abcde", "0", "")},
		{"abcdef", 3, lines("3", "abc", "3", "def", "0", "")},
		{"0123456789", 10, lines("a", "0123456789", "0", "")},
		{"0123456789abcdef", 16, lines("10", "0123456789abcdef", "0", "")},
		{"0123456789abcdef", 15, lines("f", "0123456789abcde", "1", "f", "0", "")},
		{"\r\n\x00é", 2, lines("2", "\r\n", "2", "\x00\xC3", "1", "\xA9", "0", "")},
		{strings.Repeat("x", 0xABCD), 0xABC0, lines("abc0", strings.Repeat("x", 0xABC0), "d", strings.Repeat("x", 13), "0", "")},
	} {
		if got := Encode(k.body, k.size); got != k.want {
			t.Errorf("Encode(%.100q, %d) is %.200q, not %.200q", k.body, k.size, got, k.want)
		}
	}
}

// P11.4: Parse of Encode, within the limit and beyond it.
func TestParseOfEncode(t *testing.T) {
	r := rand.New(rand.NewSource(114))
	for range 3000 {
		b := make([]byte, r.Intn(60))
		for i := range b {
			b[i] = "\r\n0a;\xFF\x00"[r.Intn(7)]
		}
		size := r.Intn(65) - 2
		s := Encode(string(b), size)
		behind := []string{"", "\r\n", "x", s}[r.Intn(4)]
		most := r.Intn(60)
		body, n, status := Parse(s+behind, head.Limits{Body: most})
		if len(b) <= most && (body != string(b) || n != len(s) || status != 0) || len(b) > most && (body != "" || n != 0 || status != 413) {
			t.Fatalf("Parse(%q, %d) is %q, %d, %d", s+behind, most, body, n, status)
		}
	}
	long := strings.Repeat("0123456789abcdef", 1<<16)
	for _, size := range []int{1000, 1 << 19, 1<<20 - 1, 1 << 20, math.MaxInt} {
		s := Encode(long, size)
		if body, n, status := Parse(s, wide); body != long || n != len(s) || status != 0 {
			t.Errorf("chunks of %d: %d bytes, %d, %d", size, len(body), n, status)
		}
		if body, n, status := Parse(Encode(long+"x", size), wide); body != "" || n != 0 || status != 413 {
			t.Errorf("chunks of %d: %d bytes, %d, %d", size, len(body), n, status)
		}
	}
}

// The chapter's words, as expressions over texts whose bytes are runes.
var (
	sizeWords  = regexp.MustCompile("^([0-9A-Fa-f]+)([ \t]*;[\t -~\u0080-\u00FF]*)?$")
	fieldWords = regexp.MustCompile("^[!#$%&'*+\\-.^_`|~0-9A-Za-z]+:[\t -~\u0080-\u00FF]*$")
)

// asRunes: a text with a rune for each byte of s.
func asRunes(s string) string {
	r := make([]rune, len(s))
	for i := range len(s) {
		r[i] = rune(s[i])
	}
	return string(r)
}

// sizeByWords: what Size answers, as the chapter says it.
func sizeByWords(line string, most int) (int, int) {
	m := sizeWords.FindStringSubmatch(asRunes(line))
	if m == nil {
		return 0, 400
	}
	n, _ := new(big.Int).SetString(m[1], 16)
	if n.Cmp(big.NewInt(int64(most))) > 0 || n.Cmp(big.NewInt(1<<31-1)) > 0 {
		return 0, 413
	}
	return int(n.Int64()), 0
}

// lineByWords: the first line, what stands behind it, a status.
func lineByWords(s string, most, long int) (string, string, int) {
	end := strings.Index(s, "\r\n")
	switch {
	case end > most || end < 0 && len(s) > most+1:
		return "", "", long
	case end < 0:
		return "", "", head.More
	}
	return s[:end], s[end+2:], 0
}

// byWords: what Parse answers, as the chapter says it.
func byWords(s string, l head.Limits) (string, int, int) {
	body, rest := "", s
	for {
		line, behind, status := lineByWords(rest, l.Line, 400)
		if status != 0 {
			return "", 0, status
		}
		size, status := sizeByWords(line, l.Body-len(body))
		if status != 0 {
			return "", 0, status
		}
		rest = behind
		if size == 0 {
			break
		}
		if len(rest) < size {
			return "", 0, head.More
		}
		body, rest = body+rest[:size], rest[size:]
		switch {
		case rest == "":
			return "", 0, head.More
		case rest[0] != '\r':
			return "", 0, 400
		case len(rest) == 1:
			return "", 0, head.More
		case rest[1] != '\n':
			return "", 0, 400
		}
		rest = rest[2:]
	}
	for n := 0; ; n++ {
		line, behind, status := lineByWords(rest, l.Line, 431)
		rest = behind
		switch {
		case status != 0:
			return "", 0, status
		case line == "":
			return body, len(s) - len(rest), 0
		case n == l.Fields:
			return "", 0, 431
		case !fieldWords.MatchString(asRunes(line)):
			return "", 0, 400
		}
	}
}

// byChance: a text that is a body in chunks, nearly.
func byChance(r *rand.Rand) string {
	chunks := []string{"1\r\na\r\n", "2\r\nab\r\n", "3;x\r\nabc\r\n", "03 ;\r\n\r\n0\r\n", "4\r\n0\r\n\r\r\n"}
	pieces := []string{"0", "1", "2", "a", "F", "\r\n", "\r\n", "\r", "\n", ";", " ;", "; x", " ", "\t", "a:b\r\n", "c: d\r\n", ":", "\xFF", "\x00", "0000000000", "ffffffff"}
	var b strings.Builder
	for range r.Intn(4) {
		b.WriteString(chunks[r.Intn(len(chunks))])
	}
	if r.Intn(3) > 0 {
		b.WriteString([]string{"0\r\n", "0;x\r\n", "000 ; \r\n", "00;\xFF\r\na:b\r\n"}[r.Intn(4)])
	}
	for range r.Intn(6) {
		b.WriteString(pieces[r.Intn(len(pieces))])
	}
	if r.Intn(2) > 0 {
		b.WriteString("\r\n\r\n")
	}
	return b.String()
}

// P11.2 and P11.4: Parse by chance, as the chapter's words say it, at each
// beginning of a text; what a beginning tells but More all of it tells.
func TestParseByChance(t *testing.T) {
	r := rand.New(rand.NewSource(112))
	seen := map[int]int{}
	for range 30000 {
		s := byChance(r)
		l := head.Limits{Line: 16 + r.Intn(4), Fields: 1 + r.Intn(3), Body: r.Intn(8)}
		told := head.More
		for i := range len(s) + 1 {
			body, n, status := Parse(s[:i], l)
			wb, wn, want := byWords(s[:i], l)
			if body != wb || n != wn || status != want {
				t.Fatalf("Parse(%q, %+v) is %q, %d, %d, not %q, %d, %d", s[:i], l, body, n, status, wb, wn, want)
			}
			if told != head.More && status != told {
				t.Fatalf("%q tells %d, with %d bytes ahead of its end %d", s, told, len(s)-i, status)
			}
			told = status
		}
		seen[told]++
	}
	for _, status := range []int{0, head.More, 400, 413, 431} {
		if seen[status] < 500 {
			t.Errorf("%d was told %d times only", status, seen[status])
		}
	}
}

// P11.1: Size by chance, as the chapter's words say it.
func TestSizeByChance(t *testing.T) {
	const signs = "0017fFaAg \t;;x\x00\xFF\r\n"
	r := rand.New(rand.NewSource(111))
	seen := map[int]int{}
	for range 200000 {
		b := make([]byte, r.Intn(8))
		for i := range b {
			b[i] = signs[r.Intn(len(signs))]
		}
		line := strings.Repeat("7", r.Intn(9)*r.Intn(2)) + string(b)
		most := []int{-1, 0, 1, 15, 255, 0x7777, 1<<31 - 1, math.MaxInt}[r.Intn(8)]
		size, status := Size(line, most)
		if ws, want := sizeByWords(line, most); size != ws || status != want {
			t.Fatalf("Size(%q, %d) is %d, %d, not %d, %d", line, most, size, status, ws, want)
		}
		seen[status]++
	}
	for _, status := range []int{0, 400, 413} {
		if seen[status] < 5000 {
			t.Errorf("%d was told %d times only", status, seen[status])
		}
	}
}

// P1: long texts, and many chunks, end soon.
func TestLongTexts(t *testing.T) {
	const long = 1 << 20
	expectSize(t, strings.Repeat("0", long)+"3", 3, 3, 0)
	expectSize(t, strings.Repeat("f", long), math.MaxInt, 0, 413)
	expectSize(t, "3"+strings.Repeat(" ", long)+";"+strings.Repeat(";", long), 3, 3, 0)
	expectSize(t, "3"+strings.Repeat(" ", long), 3, 0, 400)
	expectStatus(t, strings.Repeat("0", long), wide, 400)
	expectStatus(t, "0\r\n"+strings.Repeat("a:b\r\n", long), wide, 431)
	many := strings.Repeat("x", long)
	if body, _, status := Parse(Encode(many, 1), wide); body != many || status != 0 {
		t.Error(len(body), status)
	}
	if _, _, status := Parse(Encode(many+many, 1), wide); status != 413 {
		t.Error(status)
	}
}

// P1: no call panics, whatever the bytes and the limits; P11.4.
func FuzzParse(f *testing.F) {
	f.Add("3;x\r\nabc\r\n0\r\na:b\r\n\r\n", "x", 16, 1, 6)
	f.Add("3\r\nabc\r", "\n0\r\n\r\n", 0, 0, 0)
	f.Add("", "0", -1, -1, -1)
	f.Add("ffffffffffffffff \r\n", "\r\n", math.MaxInt, math.MinInt, math.MaxInt)
	f.Fuzz(func(t *testing.T, s, behind string, line, fields, most int) {
		l := head.Limits{Line: line, Fields: fields, Body: most}
		body, n, status := Parse(s, l)
		if wb, wn, want := byWords(s, head.Right(l)); body != wb || n != wn || status != want {
			t.Errorf("Parse(%q, %+v) is %q, %d, %d, not %q, %d, %d", s, l, body, n, status, wb, wn, want)
		}
		if b2, n2, status2 := Parse(s+behind, l); status != head.More && (b2 != body || n2 != n || status2 != status) {
			t.Errorf("Parse(%q, %+v) is %d, with %q behind it %d", s, l, status, behind, status2)
		}
		size, status := Size(s, most)
		if ws, want := sizeByWords(s, most); size != ws || status != want {
			t.Errorf("Size(%q, %d) is %d, %d, not %d, %d", s, most, size, status, ws, want)
		}
		if body, _, status := Parse(Encode(s, line), wide); len(s) <= wide.Body && (body != s || status != 0) {
			t.Errorf("Parse of Encode(%q, %d) is %q, %d", s, line, body, status)
		}
	})
}
