package head

import (
	"errors"
	"math"
	"math/rand"
	"regexp"
	"slices"
	"strconv"
	"strings"
	"testing"

	"larum/api"
)

// wide are limits that ordinary heads are far from.
var wide = Limits{Line: 8192, Fields: 100, Body: 1048576}

// lines: the lines with an end behind each.
func lines(l ...string) string {
	var b strings.Builder
	for _, line := range l {
		b.WriteString(line + "\r\n")
	}
	return b.String()
}

func sameHead(a, b Head) bool {
	return a.Method == b.Method && a.Target == b.Target && a.Minor == b.Minor && slices.Equal(a.Fields, b.Fields)
}

func zeroHead(h Head) bool { return sameHead(h, Head{}) && h.Fields == nil }

// expectHead: s is a head, alone and with whatever behind it.
func expectHead(t *testing.T, s string, l Limits, want Head) {
	t.Helper()
	for _, behind := range []string{"", "\r", "\n", "\r\n", "\r\n\r\n", "body", "\x00\xFF", s, "GET", "x: y\r\n"} {
		if h, n, status := Parse(s+behind, l); !sameHead(h, want) || n != len(s) || status != 0 {
			t.Errorf("Parse(%.200q) is %+v, %d, %d, not %+v, %d", s+behind, h, n, status, want, len(s))
		}
	}
}

// expectStatus: s tells a status, and so it does with whatever behind it, if
// that is not More.
func expectStatus(t *testing.T, s string, l Limits, want int) {
	t.Helper()
	behinds := []string{"", "\r", "\n", "\r\n", "\r\n\r\n", "x", "Host: x\r\n\r\n", "\x00\xFF", strings.Repeat("x", 9000)}
	if want == More {
		behinds = behinds[:1]
	}
	for _, behind := range behinds {
		if h, n, status := Parse(s+behind, l); !zeroHead(h) || n != 0 || status != want {
			t.Errorf("Parse(%.200q) is %+v, %d, %d, not %d alone", s+behind, h, n, status, want)
		}
	}
}

func expectLine(t *testing.T, s string, most int, line string, size int, ok bool) {
	t.Helper()
	if gl, gs, gok := Line(s, most); gl != line || gs != size || gok != ok {
		t.Errorf("Line(%.100q, %d) is %q, %d, %v, not %q, %d, %v", s, most, gl, gs, gok, line, size, ok)
	}
}

// Words, Limits: Right takes each to the nearest bound.
func TestRight(t *testing.T) {
	for _, k := range []struct{ l, want Limits }{
		{Limits{}, Limits{16, 1, 0}},
		{Limits{15, 0, -1}, Limits{16, 1, 0}},
		{Limits{16, 1, 0}, Limits{16, 1, 0}},
		{Limits{17, 2, 1}, Limits{17, 2, 1}},
		{Limits{8191, 99, 1048575}, Limits{8191, 99, 1048575}},
		{Limits{8192, 100, 1048576}, Limits{8192, 100, 1048576}},
		{Limits{8193, 101, 1048577}, Limits{8192, 100, 1048576}},
		{Limits{math.MaxInt, math.MaxInt, math.MaxInt}, Limits{8192, 100, 1048576}},
		{Limits{math.MinInt, math.MinInt, math.MinInt}, Limits{16, 1, 0}},
		{Limits{0, 101, 5}, Limits{16, 100, 5}},
		{Limits{9000, 5, -5}, Limits{8192, 5, 0}},
	} {
		if got := Right(k.l); got != k.want || Right(got) != got {
			t.Errorf("Right(%+v) is %+v, not %+v", k.l, got, k.want)
		}
	}
}

// P10.1: Line with an end.
func TestLine(t *testing.T) {
	expectLine(t, "\r\n", 5, "", 2, true)
	expectLine(t, "a\r\n", 5, "a", 3, true)
	expectLine(t, "a\r\nb\r\n", 5, "a", 3, true)
	expectLine(t, "\r\n\r\n", 5, "", 2, true)
	expectLine(t, "\r\r\n", 5, "\r", 3, true)
	expectLine(t, "\n\r\n", 5, "\n", 3, true)
	expectLine(t, "a\nb\r\n", 5, "a\nb", 5, true)
	expectLine(t, "a\rb\r\n", 5, "a\rb", 5, true)
	expectLine(t, "\n\r\r\n", 5, "\n\r", 4, true)
	expectLine(t, "\x00\xFFé\r\nx", 5, "\x00\xFFé", 6, true)
	expectLine(t, " a \r\n", 5, " a ", 5, true)
}

// P10.1: Line without an end: a D at the end, an A alone.
func TestLineWithoutEnd(t *testing.T) {
	for _, s := range []string{"", "a", "\r", "\n", "a\r", "a\n", "\n\r", "a\n\r", "a\r\r", "a\rb\nc", "abc", "abcd", "abcde", "abcdef", "abcde\r"} {
		expectLine(t, s, 5, "", 0, true)
	}
	for _, s := range []string{"abcdefg", "abcdef\r", "abcde\r\r", "abcde\n\r", "abcdefgh", "\n\n\n\n\n\n\n", "\r\r\r\r\r\r\r"} {
		expectLine(t, s, 5, "", 0, false)
	}
}

// P10.1: Line at just most bytes, and one more.
func TestLineAtMost(t *testing.T) {
	for _, most := range []int{0, 1, 2, 15, 16, 100, 8192, 10000} {
		just := strings.Repeat("x", most)
		expectLine(t, just+"\r\n", most, just, most+2, true)
		expectLine(t, just+"\r\nmore", most, just, most+2, true)
		expectLine(t, just+"x\r\n", most, "", 0, false)
		expectLine(t, just+"xx\r\n", most, "", 0, false)
		expectLine(t, just+"x\r\n\r\n", most, "", 0, false)
		expectLine(t, just, most, "", 0, true)
		expectLine(t, just+"\r", most, "", 0, true)
		expectLine(t, just+"x", most, "", 0, true)
		expectLine(t, just+"x\r", most, "", 0, false)
		expectLine(t, just+"xx", most, "", 0, false)
		expectLine(t, just+"\n", most, "", 0, true)
		expectLine(t, just+"\n\n", most, "", 0, false)
	}
}

// P10.1, P1: Line for most below 0, and at the ends of int.
func TestLineAtOddMost(t *testing.T) {
	expectLine(t, "", -1, "", 0, true)
	expectLine(t, "x", -1, "", 0, false)
	expectLine(t, "\r\n", -1, "", 0, false)
	for _, most := range []int{-2, -100, math.MinInt, math.MinInt + 1} {
		for _, s := range []string{"", "x", "\r", "\r\n", "x\r\n"} {
			expectLine(t, s, most, "", 0, false)
		}
	}
	for _, most := range []int{math.MaxInt, math.MaxInt - 1} {
		expectLine(t, "", most, "", 0, true)
		expectLine(t, "x", most, "", 0, true)
		expectLine(t, "x\r\ny", most, "x", 3, true)
	}
}

// P10.5 of Line: what it says but that more is needed, it says with whatever
// behind it.
func TestLineWithMoreBehind(t *testing.T) {
	const signs = "\r\nab"
	r := rand.New(rand.NewSource(105))
	for range 50000 {
		b := make([]byte, r.Intn(10))
		for i := range b {
			b[i] = signs[r.Intn(len(signs))]
		}
		most := r.Intn(8) - 1
		cut := r.Intn(len(b) + 1)
		if line, size, ok := Line(string(b[:cut]), most); size > 0 || !ok {
			expectLine(t, string(b), most, line, size, ok)
		}
	}
}

func expectField(t *testing.T, s string, want Field) {
	t.Helper()
	if got, ok := OfField(s); got != want || !ok {
		t.Errorf("OfField(%q) is %q, %v, not %q", s, got, ok, want)
	}
}

func expectNoField(t *testing.T, s string) {
	t.Helper()
	if got, ok := OfField(s); got != (Field{}) || ok {
		t.Errorf("OfField(%q) is %q, %v, not nothing", s, got, ok)
	}
}

// P10.1: OfField.
func TestOfField(t *testing.T) {
	expectField(t, "a:b", Field{"a", "b"})
	expectField(t, "a:", Field{"a", ""})
	expectField(t, "a: ", Field{"a", ""})
	expectField(t, "a: \t \t", Field{"a", ""})
	expectField(t, "Host: x", Field{"Host", "x"})
	expectField(t, "Host:\tx\t ", Field{"Host", "x"})
	expectField(t, "Host:  a  b\tc  ", Field{"Host", "a  b\tc"})
	expectField(t, "a:b:c", Field{"a", "b:c"})
	expectField(t, "a::", Field{"a", ":"})
	expectField(t, "a: :", Field{"a", ":"})
	expectField(t, "X-a_b.c~1: é\xFF\x80", Field{"X-a_b.c~1", "é\xFF\x80"})
	expectField(t, "!#$%&'*+-.^_`|~:(),/;<=>?@[\\]{}\"", Field{"!#$%&'*+-.^_`|~", "(),/;<=>?@[\\]{}\""})
	for _, s := range []string{
		"", "a", " ", ":", ":b", " :b", ": b", "a b", "a :b", "a\t:b", " a:b", "\ta:b", "a b:c", "é:b", "a\xFF:b", "a\x00:b", "\"a\":b", "a/b:c", "a(:c", "[a]:b",
		"a:b\r", "a:\rb", "a:b\n", "a:\nb", "a:b\r\n", "\r\na:b", "a\r:b", "a\n:b", "a:b\x00", "a:\x7fb", "a:b\x1f", "a:\x0b", "a:b\r\n c",
	} {
		expectNoField(t, s)
	}
}

// P10.1: each byte in a field's name and in its value, at each place.
func TestEveryByteInField(t *testing.T) {
	const token = "!#$%&'*+-.^_`|~0123456789abcdefghijklmnopqrstuvwxyzABCDEFGHIJKLMNOPQRSTUVWXYZ"
	for c := range 256 {
		x := string([]byte{byte(c)})
		for _, name := range []string{x, x + "n", "n" + x, "n" + x + "n"} {
			switch {
			case strings.Contains(token, x):
				expectField(t, name+": v", Field{name, "v"})
			case x == ":":
				before, behind, _ := strings.Cut(name+": v", ":")
				if before == "" {
					expectNoField(t, name+": v")
				} else {
					expectField(t, name+": v", Field{before, strings.Trim(behind, " ")})
				}
			default:
				expectNoField(t, name+": v")
			}
		}
		for _, value := range []string{x, x + "v", "v" + x, "v" + x + "v", " " + x + " "} {
			if c == 9 || 0x20 <= c && c <= 0x7E || c >= 0x80 {
				expectField(t, "n:"+value, Field{"n", strings.Trim(value, " \t")})
			} else {
				expectNoField(t, "n:"+value)
			}
		}
	}
}

// P10.2: Parse of right heads.
func TestParse(t *testing.T) {
	expectHead(t, lines("GET /a HTTP/1.1", "Host: x", ""), wide, Head{"GET", "/a", 1, []Field{{"Host", "x"}}})
	expectHead(t, lines("GET / HTTP/1.0", ""), wide, Head{"GET", "/", 0, nil})
	expectHead(t, lines("POST /a/b?c=d&e HTTP/1.1", "host:x", "A: 1", "a:  2 ", ""), wide, Head{"POST", "/a/b?c=d&e", 1, []Field{{"host", "x"}, {"A", "1"}, {"a", "2"}}})
	expectHead(t, lines("PUT /%C3%A9#\"<>{}|\\^` HTTP/1.1", "HOST:", ""), wide, Head{"PUT", "/%C3%A9#\"<>{}|\\^`", 1, []Field{{"HOST", ""}}})
	expectHead(t, lines("DELETE // HTTP/1.0", "a:b", "a:b", ""), wide, Head{"DELETE", "//", 0, []Field{{"a", "b"}, {"a", "b"}}})
	expectHead(t, lines("GET /HTTP/1.1 HTTP/1.9", "X: é\xFF", "hOsT:\tx:80\t", ""), wide, Head{"GET", "/HTTP/1.1", 9, []Field{{"X", "é\xFF"}, {"hOsT", "x:80"}}})
	for minor := range 10 {
		expectHead(t, lines("GET / HTTP/1."+strconv.Itoa(minor), "Host: x", ""), wide, Head{"GET", "/", minor, []Field{{"Host", "x"}}})
	}
}

// P10.2: at every beginning of a right head more is needed.
func TestParseOfBeginnings(t *testing.T) {
	for _, s := range []string{
		lines("GET / HTTP/1.0", ""),
		lines("GET /a HTTP/1.1", "Host: x", ""),
		lines("DELETE /a?b HTTP/1.1", "Content-Length: 4", "HOST:x", "Connection: close", "X:", ""),
		lines("PUT /"+strings.Repeat("x", 8178)+" HTTP/1.0", "X: "+strings.Repeat("y", 8189), ""),
	} {
		if _, n, status := Parse(s, wide); n != len(s) || status != 0 {
			t.Errorf("Parse(%.100q) is %d bytes, %d", s, n, status)
		}
		for i := range len(s) {
			if h, n, status := Parse(s[:i], wide); !zeroHead(h) || n != 0 || status != More {
				t.Fatalf("Parse of %d bytes of %.100q is %+v, %d, %d", i, s, h, n, status)
			}
		}
	}
}

// wrongFirst are lines that are no first lines.
var wrongFirst = []string{
	"", " ", "GET", "GET /", "GET / ", "GET /  ", " GET / HTTP/1.1", "GET  / HTTP/1.1", "GET /  HTTP/1.1", "GET / HTTP/1.1 ", "GET / HTTP/1.1 x", "GET / a HTTP/1.1",
	"GET\t/ HTTP/1.1", "GET /\tHTTP/1.1", "GET / HTTP/1.1\t", "GET a HTTP/1.1", "GET * HTTP/1.1", "GET http://a/ HTTP/1.1", "GET ?a HTTP/1.1", "GET  HTTP/1.1", " / HTTP/1.1", "/ HTTP/1.1",
	"GET / HTTP/1", "GET / HTTP/1.", "GET / HTTP/.1", "GET / HTTP/11", "GET / HTTP/1.10", "GET / HTTP/11.1", "GET / HTTP/1.x", "GET / HTTP/x.1", "GET / HTTP/1,1", "GET / http/1.1", "GET / Http/1.1",
	"GET / HTTP1.1", "GET / HTTP 1.1", "GET / HTTPS/1.1", "GET / /1.1", "GET / 1.1", "GET / HTTP//1.1", "GET / HTTP/ 1.1", "GET / HTTP/+1.1", "GET / HTTP/1.1.", "GET / HTTP/1..", "GET / HTTP/..1", "GET / HTTP/1:1",
	"G(T / HTTP/1.1", "G:T / HTTP/1.1", "G/T / HTTP/1.1", "GÉT / HTTP/1.1", "G\x00T / HTTP/1.1", "G\x7fT / HTTP/1.1",
	"GET /é HTTP/1.1", "GET /\xFF HTTP/1.1", "GET /\x00 HTTP/1.1", "GET /\x7f HTTP/1.1", "GET /\x1f HTTP/1.1", "GET / HTTP/1.\xFF", "Host: x",
	// Bad ones.
	"GET / HTTP/1.1\n", "\nGET / HTTP/1.1", "GET\n/ HTTP/1.1", "GET /\n HTTP/1.1", "GET / HTTP/1.1\r", "\rGET / HTTP/1.1", "GET /\r HTTP/1.1", "GET / HTTP/1.1\nHost: x", "\n", "\r", "GET / HTTP/1.\n", "GET / HTTP/1\r1",
}

// P10.2: 400, the first line.
func TestParseOfWrongFirstLines(t *testing.T) {
	for _, s := range wrongFirst {
		expectStatus(t, lines(s), wide, 400)
		expectStatus(t, lines(s, "Host: x", ""), wide, 400)
	}
}

// P10.2: each byte in a method, in a target, and for each byte of a version.
func TestEveryByteInFirstLine(t *testing.T) {
	const token = "!#$%&'*+-.^_`|~0123456789abcdefghijklmnopqrstuvwxyzABCDEFGHIJKLMNOPQRSTUVWXYZ"
	for c := range 256 {
		x := string([]byte{byte(c)})
		want := 400
		if strings.Contains(token, x) {
			want = 501
		}
		for _, method := range []string{x, x + "GET", "GET" + x, "G" + x + "ET"} {
			expectStatus(t, lines(method+" / HTTP/1.0"), wide, want)
		}
		for _, target := range []string{"/" + x, "/" + x + "a", "/a" + x} {
			if 0x21 <= c && c <= 0x7E {
				expectHead(t, lines("GET "+target+" HTTP/1.0", ""), wide, Head{"GET", target, 0, nil})
			} else {
				expectStatus(t, lines("GET "+target+" HTTP/1.0", ""), wide, 400)
			}
		}
		if x != "/" {
			expectStatus(t, lines("GET "+x+"a HTTP/1.0"), wide, 400)
		}
		const version = "HTTP/1.0"
		for i := range len(version) {
			want := 400
			switch digit := '0' <= c && c <= '9'; {
			case x == version[i:i+1] || i == 7 && digit:
				want = More
			case i == 5 && digit:
				want = 505
			}
			expectStatus(t, lines("GET / "+version[:i]+x+version[i+1:]), wide, want)
		}
	}
}

// P10.2: 505 and 501.
func TestParseOfOtherVersionsAndMethods(t *testing.T) {
	for _, digit := range "023456789" {
		expectStatus(t, lines("GET / HTTP/"+string(digit)+".1"), wide, 505)
		expectStatus(t, lines("GET / HTTP/"+string(digit)+".0", "Host: x", ""), wide, 505)
		expectStatus(t, lines("BREW / HTTP/"+string(digit)+".1"), wide, 505)
	}
	for _, method := range []string{"PATCH", "HEAD", "OPTIONS", "CONNECT", "TRACE", "get", "Get", "GETS", "GE", "POSTS", "post", "PUTT", "put", "DELETED", "delete", "A", "!", "1", "GET-POST"} {
		expectStatus(t, lines(method+" / HTTP/1.1"), wide, 501)
		expectStatus(t, lines(method+" / HTTP/1.0", "", ""), wide, 501)
	}
	for _, method := range []string{"GET", "POST", "PUT", "DELETE"} {
		expectHead(t, lines(method+" / HTTP/1.0", ""), wide, Head{method, "/", 0, nil})
	}
}

// P10.2: 414, the first line at just Line bytes, at one more; with an end and
// without one.
func TestParseOfLongFirstLines(t *testing.T) {
	for _, most := range []int{16, 17, 40, 8191, 8192} {
		l := Limits{Line: most, Fields: 5}
		target := "/" + strings.Repeat("x", most-len("GET / HTTP/1.0"))
		just := "GET " + target + " HTTP/1.0"
		expectHead(t, lines(just, ""), l, Head{"GET", target, 0, nil})
		expectStatus(t, just, l, More)
		expectStatus(t, just+"\r", l, More)
		expectStatus(t, just+"x", l, More)
		expectStatus(t, just+"x\r", l, 414)
		expectStatus(t, just+"xx", l, 414)
		expectStatus(t, lines("GET /"+target+" HTTP/1.0"), l, 414)
		expectStatus(t, lines("GET /"+target+" HTTP/1.0", ""), l, 414)
		// Too long is told ahead of all else that is wrong with the line.
		for _, c := range []string{"\n", "\r", "\x00", " ", "x", "é"} {
			expectStatus(t, lines(strings.Repeat(c, most+1)), l, 414)
			expectStatus(t, strings.Repeat(c, most+2), l, 414)
		}
		expectStatus(t, lines("BREW "+target+" HTTP/2.0"), l, 414)
		// Bad, but not too long.
		expectStatus(t, lines(strings.Repeat("\n", most)), l, 400)
		expectStatus(t, strings.Repeat("\n", most+1), l, More)
	}
}

// P10.2: 431, a field's line at just Line bytes, at one more.
func TestParseOfLongFields(t *testing.T) {
	const first = "GET / HTTP/1.0\r\n"
	for _, most := range []int{16, 40, 8192} {
		l := Limits{Line: most, Fields: 2}
		for _, ahead := range []string{first, first + "a:b\r\n", first + "a:b\r\nc:d\r\n"} {
			value := strings.Repeat("y", most-len("X:"))
			if strings.Count(ahead, "\n") < 3 {
				h, _, status := Parse(ahead+lines("X:"+value, ""), l)
				if status != 0 || h.Fields[len(h.Fields)-1] != (Field{"X", value}) {
					t.Errorf("a field of %d bytes: %d", most, status)
				}
			}
			expectStatus(t, ahead+"X:"+value, l, More)
			expectStatus(t, ahead+"X:"+value+"\r", l, More)
			expectStatus(t, ahead+"X:"+value+"y", l, More)
			expectStatus(t, ahead+"X:"+value+"y\r", l, 431)
			expectStatus(t, ahead+"X:"+value+"yy", l, 431)
			expectStatus(t, ahead+lines("X:"+value+"y"), l, 431)
			for _, c := range []string{"\n", "\r", "\x00", " ", "x", ":"} {
				expectStatus(t, ahead+lines(strings.Repeat(c, most+1)), l, 431)
				expectStatus(t, ahead+strings.Repeat(c, most+2), l, 431)
				expectStatus(t, ahead+strings.Repeat(c, most+1), l, More)
			}
		}
	}
}

// P10.2: 431, at just Fields of them, at one more; a wrong one too.
func TestParseOfManyFields(t *testing.T) {
	for _, most := range []int{1, 2, 3, 99, 100} {
		l := Limits{Line: 40, Fields: most}
		just := "GET / HTTP/1.0\r\n" + strings.Repeat("a: b\r\n", most)
		if h, n, status := Parse(just+"\r\n", l); len(h.Fields) != most || n != len(just)+2 || status != 0 {
			t.Errorf("%d fields: %d, %d, %d", most, len(h.Fields), n, status)
		}
		expectStatus(t, just, l, More)
		// The line that is too many must have ended.
		expectStatus(t, just+"c", l, More)
		expectStatus(t, just+"\r", l, More)
		expectStatus(t, just+"c: d", l, More)
		for _, line := range []string{"c: d", "c", ":", " ", "\n", "\r", "c: d\x00", "Host: x"} {
			expectStatus(t, just+lines(line), l, 431)
			expectStatus(t, just+lines(line, ""), l, 431)
		}
		// A wrong one ahead of that is met first.
		expectStatus(t, "GET / HTTP/1.0\r\n"+strings.Repeat("a: b\r\n", most-1)+lines("c", "d: e", "f: g"), l, 400)
	}
}

// P10.2: 400, a field's line.
func TestParseOfWrongFields(t *testing.T) {
	for _, line := range []string{
		"a", ":", ":b", " a: b", "\ta: b", "a : b", "a\t: b", "a b: c", " ", "\t", "é: b", "a: b\x00", "a: \x7f", "(a): b",
		"a: b\n", "\na: b", "a\n: b", "a: b\nc: d", "a: b\r", "\ra: b", "a: \rb", "\n", "\r", "a: b\n\r", "GET / HTTP/1.1",
	} {
		for _, minor := range []string{"0", "1"} {
			first := "GET / HTTP/1." + minor
			expectStatus(t, lines(first, line), wide, 400)
			expectStatus(t, lines(first, "Host: x", line), wide, 400)
			expectStatus(t, lines(first, line, "Host: x", ""), wide, 400)
		}
	}
}

// P10.2: Host: none, one, two, in whatever letters; HTTP/1.0 needs none.
func TestParseAsksForHost(t *testing.T) {
	for _, minor := range []int{1, 2, 9} {
		first := "GET / HTTP/1." + strconv.Itoa(minor)
		expectStatus(t, lines(first, ""), wide, 400)
		expectStatus(t, lines(first, "a: b", ""), wide, 400)
		expectStatus(t, lines(first, "Hos: x", "Hostt: x", "X-Host: x", ""), wide, 400)
		expectStatus(t, lines(first, "Host: x", "Host: x", ""), wide, 400)
		expectStatus(t, lines(first, "Host: x", "a: b", "HOST: x", ""), wide, 400)
		expectStatus(t, lines(first, "host: x", "hOsT: y", "Host:", ""), wide, 400)
		// It is told behind the empty line, not ahead of it.
		expectStatus(t, lines(first, "Host: x", "Host: x"), wide, More)
		expectStatus(t, lines(first, "a: b"), wide, More)
		for _, name := range []string{"Host", "HOST", "host", "hOST"} {
			expectHead(t, lines(first, name+": x", ""), wide, Head{"GET", "/", minor, []Field{{name, "x"}}})
			expectHead(t, lines(first, "a: b", name+":", "c: d", ""), wide, Head{"GET", "/", minor, []Field{{"a", "b"}, {name, ""}, {"c", "d"}}})
		}
	}
	expectHead(t, lines("GET / HTTP/1.0", ""), wide, Head{"GET", "/", 0, nil})
	expectHead(t, lines("GET / HTTP/1.0", "Host: x", "HOST: y", ""), wide, Head{"GET", "/", 0, []Field{{"Host", "x"}, {"HOST", "y"}}})
}

// P10.2: of two things that are wrong the one that is met first is told.
func TestFirstThingIsTold(t *testing.T) {
	l := Limits{Line: 40, Fields: 2}
	long := strings.Repeat("x", 41)
	firsts := []struct {
		line string
		want int
	}{
		{long, 414}, {"GET / HTTP/1.1\n", 400}, {"GET", 400}, {"GET / HTTP/2.0", 505}, {"BREW / HTTP/1.1", 501},
		{"BREW / HTTP/2.0", 505}, {"BREW a HTTP/2.0", 400}, {"GET / HTTP/2.0 ", 400}, {"B(W / HTTP/2.0", 400}, {"BREW / HTTP/1.1\r", 400}, {long + "\n", 414},
	}
	fields := []struct {
		lines []string
		want  int
	}{
		{[]string{"a:" + long}, 431}, {[]string{"a:b", "c:d", "e:f"}, 431}, {[]string{"a:b\n"}, 400}, {[]string{"a"}, 400}, {[]string{""}, 400}, {[]string{"a:b", "a"}, 400}, {[]string{"Host:x", "Host:x", ""}, 400},
	}
	for _, first := range firsts {
		expectStatus(t, lines(first.line), l, first.want)
		expectStatus(t, lines(first.line)+strings.Repeat("y", 50), l, first.want)
		for _, f := range fields {
			expectStatus(t, lines(first.line)+lines(f.lines...), l, first.want)
		}
	}
	for _, f := range fields {
		expectStatus(t, lines("GET / HTTP/1.1")+lines(f.lines...), l, f.want)
		for _, other := range fields {
			expectStatus(t, lines("GET / HTTP/1.1")+lines(f.lines...)+lines(other.lines...), l, f.want)
		}
		for _, first := range firsts {
			expectStatus(t, lines("GET / HTTP/1.1")+lines(f.lines...)+lines(first.line), l, f.want)
		}
	}
}

// Words, Limits: Parse takes limits beyond their bounds as the nearest ones.
func TestParseTakesLimitsWithinBounds(t *testing.T) {
	for _, line := range []int{math.MinInt, -1, 0, 1, 15, 16} {
		l := Limits{Line: line, Fields: 5}
		expectHead(t, lines("GET /23 HTTP/1.0", "aaaaaaaa:bbbbbbb", ""), l, Head{"GET", "/23", 0, []Field{{"aaaaaaaa", "bbbbbbb"}}})
		expectStatus(t, lines("GET /234 HTTP/1.0"), l, 414)
		expectStatus(t, lines("GET /23 HTTP/1.0", "aaaaaaaa:bbbbbbbb"), l, 431)
	}
	for _, line := range []int{8192, 8193, math.MaxInt} {
		l := Limits{Line: line, Fields: 5}
		target := "/" + strings.Repeat("x", 8192-len("GET / HTTP/1.0"))
		expectHead(t, lines("GET "+target+" HTTP/1.0", ""), l, Head{"GET", target, 0, nil})
		expectStatus(t, lines("GET "+target+"x HTTP/1.0"), l, 414)
	}
	for _, fields := range []int{math.MinInt, -1, 0, 1} {
		l := Limits{Line: 40, Fields: fields}
		expectHead(t, lines("GET / HTTP/1.0", "a:b", ""), l, Head{"GET", "/", 0, []Field{{"a", "b"}}})
		expectStatus(t, lines("GET / HTTP/1.0", "a:b", "c:d"), l, 431)
	}
	for _, fields := range []int{100, 101, math.MaxInt} {
		l := Limits{Line: 40, Fields: fields}
		s := "GET / HTTP/1.0\r\n" + strings.Repeat("a:b\r\n", 100)
		if h, _, status := Parse(s+"\r\n", l); len(h.Fields) != 100 || status != 0 {
			t.Error(fields, len(h.Fields), status)
		}
		expectStatus(t, s+"c:d\r\n", l, 431)
	}
}

// The chapter's words, as expressions.
var (
	firstWords = regexp.MustCompile("^([!#$%&'*+\\-.^_`|~0-9A-Za-z]+) (/[!-~]*) HTTP/([0-9])\\.([0-9])$")
	fieldWords = regexp.MustCompile("^([!#$%&'*+\\-.^_`|~0-9A-Za-z]+):([\\t -~]*)$")
)

// byWords: what Parse answers at s, as the chapter says it, for ASCII.
func byWords(s string, l Limits) (Head, int, int) {
	var h Head
	hosts := 0
	for i, rest := 0, s; ; i++ {
		end := strings.Index(rest, "\r\n")
		long := end > l.Line || end < 0 && len(rest) > l.Line+1
		switch {
		case long && i == 0:
			return Head{}, 0, 414
		case long:
			return Head{}, 0, 431
		case end < 0:
			return Head{}, 0, 1
		}
		line := rest[:end]
		rest = rest[end+2:]
		if i == 0 {
			m := firstWords.FindStringSubmatch(line)
			switch {
			case m == nil:
				return Head{}, 0, 400
			case m[3] != "1":
				return Head{}, 0, 505
			case !slices.Contains([]string{"GET", "POST", "PUT", "DELETE"}, m[1]):
				return Head{}, 0, 501
			}
			h = Head{Method: m[1], Target: m[2], Minor: int(m[4][0] - '0')}
			continue
		}
		if line == "" {
			if h.Minor > 0 && hosts != 1 {
				return Head{}, 0, 400
			}
			return h, len(s) - len(rest), 0
		}
		m := fieldWords.FindStringSubmatch(line)
		switch {
		case i > l.Fields:
			return Head{}, 0, 431
		case m == nil:
			return Head{}, 0, 400
		case strings.EqualFold(m[1], "host"):
			hosts++
		}
		h.Fields = append(h.Fields, Field{m[1], strings.Trim(m[2], " \t")})
	}
}

// byChance: a text that is a head, nearly.
func byChance(r *rand.Rand) string {
	firsts := []string{"GET / HTTP/1.1", "GET / HTTP/1.1", "GET / HTTP/1.0", "POST /a HTTP/1.1", "PUT /aaaa HTTP/1.0", "BREW / HTTP/1.1", "GET / HTTP/2.0", "GET /", ""}
	pieces := []string{"Host", "host", ":", ": ", "x", "a:b", "\r\n", "\r\n", "\r\n\r\n", " ", "\t", "\n", "\r", "\r\nHost: x\r\n", "a: b\r\n", "/", "\x00"}
	var b strings.Builder
	b.WriteString(firsts[r.Intn(len(firsts))])
	if r.Intn(8) > 0 {
		b.WriteString("\r\n")
	}
	for range r.Intn(10) {
		b.WriteString(pieces[r.Intn(len(pieces))])
	}
	if r.Intn(2) > 0 {
		b.WriteString("\r\n\r\n")
	}
	return b.String()
}

// P10.2 and P10.5: Parse by chance, as the chapter's words say it, at each
// beginning of a text; what a beginning tells but More all of it tells.
func TestParseByChance(t *testing.T) {
	r := rand.New(rand.NewSource(102))
	seen := map[int]int{}
	for range 30000 {
		s := byChance(r)
		l := Limits{Line: 16 + r.Intn(8), Fields: 1 + r.Intn(3)}
		told := More
		for i := range len(s) + 1 {
			h, n, status := Parse(s[:i], l)
			wh, wn, want := byWords(s[:i], l)
			if !sameHead(h, wh) || n != wn || status != want {
				t.Fatalf("Parse(%q, %+v) is %+v, %d, %d, not %+v, %d, %d", s[:i], l, h, n, status, wh, wn, want)
			}
			if told != More && status != told {
				t.Fatalf("%q tells %d, with %d bytes ahead of its end %d", s, told, len(s)-i, status)
			}
			told = status
		}
		seen[told]++
	}
	for _, status := range []int{0, More, 400, 414, 431, 501, 505} {
		if seen[status] < 50 {
			t.Errorf("%d was told %d times only", status, seen[status])
		}
	}
}

// of: a head with fields, by their names and values in turn.
func of(minor int, l ...string) Head {
	h := Head{Method: "PUT", Target: "/", Minor: minor}
	for i := 0; i < len(l); i += 2 {
		h.Fields = append(h.Fields, Field{l[i], l[i+1]})
	}
	return h
}

// expectBody: of the head, and of it with other fields around.
func expectBody(t *testing.T, h Head, most, kind, size, status int) {
	t.Helper()
	around := h
	around.Fields = slices.Concat([]Field{{"Host", "x"}, {"Length", "7"}}, h.Fields, []Field{{"Encoding", "gzip"}, {"X-Content-Length", "8"}, {"", "9"}})
	for _, x := range []Head{h, around} {
		if gk, gs, gst := Body(x, Limits{Body: most}); gk != kind || gs != size || gst != status {
			t.Errorf("Body(%+v, %d) is %d, %d, %d, not %d, %d, %d", x, most, gk, gs, gst, kind, size, status)
		}
	}
}

// P10.3: Body of right heads.
func TestBody(t *testing.T) {
	for _, minor := range []int{0, 1, 2, 9} {
		expectBody(t, of(minor), 10, Sized, 0, 0)
		for _, name := range []string{"Content-Length", "content-length", "CONTENT-LENGTH", "cOnTeNt-LeNgTh"} {
			expectBody(t, of(minor, name, "0"), 10, Sized, 0, 0)
			expectBody(t, of(minor, name, "4"), 10, Sized, 4, 0)
			expectBody(t, of(minor, name, "10"), 10, Sized, 10, 0)
			expectBody(t, of(minor, name, "0004"), 10, Sized, 4, 0)
			expectBody(t, of(minor, name, "00000000000000000000010"), 10, Sized, 10, 0)
			expectBody(t, of(minor, name, "11"), 10, 0, 0, 413)
		}
	}
	for _, minor := range []int{1, 2, 9} {
		for _, name := range []string{"Transfer-Encoding", "transfer-encoding", "TRANSFER-ENCODING"} {
			for _, value := range []string{"chunked", "Chunked", "CHUNKED", "cHuNkEd"} {
				expectBody(t, of(minor, name, value), 10, Chunked, 0, 0)
				expectBody(t, of(minor, name, value), 0, Chunked, 0, 0)
			}
		}
	}
}

// P10.3: sizes of just Body, and one more; limits beyond their bounds.
func TestBodyAtLimit(t *testing.T) {
	for _, k := range []struct{ most, just int }{
		{math.MinInt, 0}, {-1, 0}, {0, 0}, {1, 1}, {9, 9}, {1000, 1000}, {1048575, 1048575}, {1048576, 1048576}, {1048577, 1048576}, {math.MaxInt, 1048576},
	} {
		expectBody(t, of(1, "Content-Length", strconv.Itoa(k.just)), k.most, Sized, k.just, 0)
		expectBody(t, of(1, "Content-Length", strconv.Itoa(k.just+1)), k.most, 0, 0, 413)
		expectBody(t, of(0, "Content-Length", "000"+strconv.Itoa(k.just+1)), k.most, 0, 0, 413)
		for _, value := range []string{"2147483647", "2147483648", "4294967295", "4294967296", "4294967297", "9223372036854775808", "18446744073709551616", "18446744073709551617", strings.Repeat("9", 100)} {
			expectBody(t, of(1, "Content-Length", value), k.most, 0, 0, 413)
		}
	}
}

// P10.3: 400.
func TestBodyOfWrongHeads(t *testing.T) {
	const length, encoding = "Content-Length", "Transfer-Encoding"
	for _, minor := range []int{0, 1, 9} {
		for _, value := range []string{"", " ", "x", "-1", "+1", "-0", "1 ", " 1", "1,1", "1, 1", "1.0", "0x1", "1e1", "a", "f", "1_0", "chunked", "\xFF", "١", "99999999999999999999x", "x99999999999999999999", "-99999999999999999999"} {
			expectBody(t, of(minor, length, value), 10, 0, 0, 400)
		}
		for _, value := range []string{"4", "99", "x", "99999999999999999999"} {
			for _, coding := range []string{"chunked", "gzip", ""} {
				expectBody(t, of(minor, length, value, encoding, coding), 10, 0, 0, 400)
				expectBody(t, of(minor, encoding, coding, "TRANSFER-encoding", coding), 10, 0, 0, 400)
				expectBody(t, of(minor, "transfer-encoding", coding, "A", "b", "content-LENGTH", value), 10, 0, 0, 400)
			}
			expectBody(t, of(minor, length, value, length, value), 10, 0, 0, 400)
			expectBody(t, of(minor, length, value, "A", "b", "content-length", "4"), 10, 0, 0, 400)
			expectBody(t, of(minor, length, "4", "CONTENT-LENGTH", value, length, "4"), 10, 0, 0, 400)
		}
	}
	for _, coding := range []string{"chunked", "Chunked", "gzip", "", "identity"} {
		expectBody(t, of(0, encoding, coding), 10, 0, 0, 400)
	}
}

// P10.3: 501.
func TestBodyOfOtherEncodings(t *testing.T) {
	for _, minor := range []int{1, 2, 9} {
		for _, value := range []string{"", "gzip", "identity", "gzip, chunked", "chunked, gzip", "chunked,chunked", "chunked,", "chunke", "chunkedd", "x-chunked", "chunked;a=b", "chunked x", "4", "\u212A"} {
			expectBody(t, of(minor, "Transfer-Encoding", value), 10, 0, 0, 501)
		}
	}
}

// P10.3: Body of heads that Parse has read.
func TestBodyOfParsed(t *testing.T) {
	for _, k := range []struct {
		fields             []string
		kind, size, status int
	}{
		{nil, Sized, 0, 0},
		{[]string{"Content-Length:  7 "}, Sized, 7, 0},
		{[]string{"Content-Length:\t10"}, Sized, 10, 0},
		{[]string{"Content-Length: 11"}, 0, 0, 413},
		{[]string{"Content-Length:"}, 0, 0, 400},
		{[]string{"Transfer-Encoding: chunked "}, Chunked, 0, 0},
		{[]string{"Transfer-Encoding: gzip"}, 0, 0, 501},
		{[]string{"Transfer-Encoding: chunked", "Content-Length: 7"}, 0, 0, 400},
	} {
		h, _, status := Parse(lines("PUT / HTTP/1.1", "Host: x")+lines(k.fields...)+"\r\n", wide)
		if status != 0 {
			t.Errorf("%q: %d", k.fields, status)
		}
		expectBody(t, h, 10, k.kind, k.size, k.status)
	}
}

// P10.3: Values, in any letters.
func TestValues(t *testing.T) {
	h := of(1, "A", "1", "b", "2", "a", "", "A", "1", "", "3", "a ", "4", "É", "5", "Accept-x", " 6 ")
	for _, k := range []struct {
		name string
		want []string
	}{
		{"a", []string{"1", "", "1"}},
		{"A", []string{"1", "", "1"}},
		{"B", []string{"2"}},
		{"", []string{"3"}},
		{"A ", []string{"4"}},
		{"É", []string{"5"}},
		{"é", nil},
		{"aCCEPT-X", []string{" 6 "}},
		{"accept", nil},
		{"1", nil},
		{"c", nil},
	} {
		if got := Values(h, k.name); !slices.Equal(got, k.want) {
			t.Errorf("Values of %q is %q, not %q", k.name, got, k.want)
		}
		if got := Values(Head{}, k.name); len(got) != 0 {
			t.Errorf("Values of no fields, %q, is %q", k.name, got)
		}
	}
}

// P10.4: Persist; at Minor 1, and at 0.
func TestPersist(t *testing.T) {
	const name = "Connection"
	for _, k := range []struct {
		fields    []string
		now, once bool
	}{
		{nil, true, false},
		{[]string{name, ""}, true, false},
		{[]string{name, ","}, true, false},
		{[]string{name, "close"}, false, false},
		{[]string{name, "keep-alive"}, true, true},
		{[]string{name, "CLOSE"}, false, false},
		{[]string{name, "Keep-Alive"}, true, true},
		{[]string{"connection", "Close"}, false, false},
		{[]string{"CONNECTION", "KEEP-ALIVE"}, true, true},
		{[]string{name, "close, keep-alive"}, false, false},
		{[]string{name, "keep-alive, close"}, false, false},
		{[]string{name, "keep-alive", name, "close"}, false, false},
		{[]string{name, "close", name, "keep-alive"}, false, false},
		{[]string{name, "x", "connection", "y", "A", "b", name, "close"}, false, false},
		{[]string{name, "x", "connection", "y", "A", "b", name, "keep-alive"}, true, true},
		{[]string{name, "x , \tclose\t ,y"}, false, false},
		{[]string{name, " keep-alive\t,x"}, true, true},
		{[]string{name, ",,close,"}, false, false},
		{[]string{name, ",,keep-alive,"}, true, true},
		{[]string{name, "x,keep-alive,y"}, true, true},
		{[]string{name, "upgrade"}, true, false},
		{[]string{name, "closed"}, true, false},
		{[]string{name, "clos"}, true, false},
		{[]string{name, "close;x"}, true, false},
		{[]string{name, "close x"}, true, false},
		{[]string{name, `"close"`}, true, false},
		{[]string{name, "keepalive"}, true, false},
		{[]string{name, "keep-alive x"}, true, false},
		{[]string{name, "keep-alive-x"}, true, false},
		{[]string{"X-Connection", "close"}, true, false},
		{[]string{"Connection ", "keep-alive"}, true, false},
		{[]string{"Proxy-Connection", "keep-alive"}, true, false},
		{[]string{"close", name}, true, false},
		{[]string{"Keep-Alive", "keep-alive"}, true, false},
	} {
		for _, minor := range []int{1, 2, 9, -1, math.MaxInt} {
			if got := Persist(of(minor, k.fields...)); got != k.now {
				t.Errorf("Persist of %q, Minor %d, is %v", k.fields, minor, got)
			}
		}
		if got := Persist(of(0, k.fields...)); got != k.once {
			t.Errorf("Persist of %q, Minor 0, is %v", k.fields, got)
		}
	}
}

// Ways: a status is found in what the reader answers, with its line; so is a
// number's error.
func TestFaultsTellLines(t *testing.T) {
	for _, k := range []struct {
		s    string
		line int
		want status
	}{
		{"GET", 1, more},
		{lines("GET"), 1, badRequest},
		{lines("GET / HTTP/3.0"), 1, otherVersion},
		{lines("BREW / HTTP/1.1"), 1, notDone},
		{strings.Repeat("x", 50), 1, tooLongTarget},
		{lines("GET / HTTP/1.1"), 2, more},
		{lines("GET / HTTP/1.1", "a"), 2, badRequest},
		{lines("GET / HTTP/1.1", "a:b", "c:d", "e:f"), 4, tooManyFields},
		{lines("GET / HTTP/1.1", "a:b", ""), 3, badRequest},
	} {
		r := reader{s: k.s, limits: Limits{Line: 40, Fields: 2}}
		_, err := r.head()
		var f fault
		if !errors.As(err, &f) || f.line != k.line || !errors.Is(err, k.want) || told(err) != int(k.want) {
			t.Errorf("%q: %v", k.s, err)
		}
	}
	_, err := number("x", 3)
	if !errors.Is(err, api.ErrForm) || told(err) != 0 {
		t.Errorf("%v", err)
	}
	_, _, err = body(of(1, "a", "b", "Content-Length", "9"), 8)
	if !errors.Is(err, tooLarge) || err.Error() != "status 413 in line 3" {
		t.Errorf("%v", err)
	}
}

// Rules 4 and 5: nothing that is handed in is changed, and no answer is seen
// in another one.
func TestAnswersShareNothing(t *testing.T) {
	s := lines("GET / HTTP/1.1", "Host: x", "a: 1", "A: 2", "")
	want := Head{"GET", "/", 1, []Field{{"Host", "x"}, {"a", "1"}, {"A", "2"}}}
	h, _, _ := Parse(s, wide)
	h.Fields[0] = Field{"spoilt", ""}
	_ = append(h.Fields[:1], Field{"spoilt", ""})
	expectHead(t, s, wide, want)

	in := of(1, "a", "1", "Connection", "CLOSE", "a", "2", "Content-Length", "3", "room", "")
	before := slices.Clone(in.Fields)
	in.Fields = in.Fields[:4]
	values := Values(in, "a")
	values[0] = "spoilt"
	_ = append(values, "spoilt")
	if got := Values(in, "a"); !slices.Equal(got, []string{"1", "2"}) {
		t.Errorf("the second answer is %q", got)
	}
	Body(in, wide)
	Persist(in)
	if !slices.Equal(in.Fields[:5], before) {
		t.Errorf("it became %q", in.Fields[:5])
	}
}

// P1: long texts and many fields end soon.
func TestLongTexts(t *testing.T) {
	const long = 1 << 20
	expectStatus(t, strings.Repeat("x", long), wide, 414)
	expectStatus(t, "GET / HTTP/1.1\r\n"+strings.Repeat("\n", long), wide, 431)
	expectStatus(t, "GET / HTTP/1.1\r\n"+strings.Repeat("a:\r\n", long), wide, 431)
	h := Head{Fields: slices.Repeat([]Field{{"Connection", "keep-alive, x"}}, long)}
	if !Persist(h) || len(Values(h, "connection")) != long {
		t.Error("many fields")
	}
	if _, _, status := Body(Head{Fields: slices.Repeat([]Field{{"Content-Length", "1"}}, long)}, wide); status != 400 {
		t.Error(status)
	}
}

// P1: no call panics, whatever the bytes and the limits; P10.5.
func FuzzParse(f *testing.F) {
	f.Add(lines("GET / HTTP/1.1", "Host: x", ""), "body", 40, 2, 10)
	f.Add("GET / HTTP/1.0\r\nContent-Length: 5\r\n\r\n", "\r\n", 0, 0, 0)
	f.Add("", "GET", -1, -1, -1)
	f.Add("GET / HTTP/1.1\n", "\r\n", math.MaxInt, math.MinInt, math.MaxInt)
	f.Fuzz(func(t *testing.T, s, behind string, line, fields, body int) {
		l := Limits{line, fields, body}
		h, n, status := Parse(s, l)
		if status != 0 && (!zeroHead(h) || n != 0) || status == 0 && (n < 1 || n > len(s)) {
			t.Errorf("Parse(%q, %+v) is %+v, %d, %d", s, l, h, n, status)
		}
		if h2, n2, status2 := Parse(s+behind, l); status != More && (!sameHead(h2, h) || n2 != n || status2 != status) {
			t.Errorf("Parse(%q, %+v) is %d, with %q behind it %d", s, l, status, behind, status2)
		}
		if h2, n2, status2 := Parse(s, Right(l)); !sameHead(h2, h) || n2 != n || status2 != status {
			t.Errorf("Parse(%q, %+v) is not as with limits within their bounds", s, l)
		}
		if kind, size, status := Body(h, l); status != 0 && (kind != 0 || size != 0) || size < 0 || size > Right(l).Body {
			t.Errorf("Body(%+v, %+v) is %d, %d, %d", h, l, kind, size, status)
		}
		Line(s, line)
		OfField(s)
		Persist(of(fields, "Connection", s))
		Body(of(1, "Content-Length", s), l)
	})
}
