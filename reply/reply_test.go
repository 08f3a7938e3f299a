package reply

import (
	"math"
	"math/rand"
	"regexp"
	"slices"
	"strconv"
	"strings"
	"testing"
	"unicode/utf8"

	"larum/api"
	"larum/head"
)

// words: the chapter's list of statuses.
var words = map[int]string{
	200: "OK", 201: "Created", 204: "No Content", 304: "Not Modified",
	400: "Bad Request", 404: "Not Found", 405: "Method Not Allowed", 408: "Request Timeout", 410: "Gone",
	412: "Precondition Failed", 413: "Content Too Large", 414: "URI Too Long", 428: "Precondition Required", 431: "Request Header Fields Too Large",
	501: "Not Implemented", 503: "Service Unavailable", 505: "HTTP Version Not Supported", 507: "Insufficient Storage",
}

// lines: the lines with an end behind each.
func lines(l ...string) string {
	var b strings.Builder
	for _, line := range l {
		b.WriteString(line + "\r\n")
	}
	return b.String()
}

// everyByte: all bytes that there are, one behind the other.
func everyByte() string {
	b := make([]byte, 256)
	for i := range b {
		b[i] = byte(i)
	}
	return string(b)
}

func sameReply(a, b Reply) bool {
	return a.Status == b.Status && slices.Equal(a.Fields, b.Fields) && a.Body == b.Body
}

func isZero(r Reply) bool { return r.Status == 0 && r.Fields == nil && r.Body == "" }

func expectEncode(t *testing.T, r Reply, want string) {
	t.Helper()
	if got, e := Encode(r); got != want || e != api.OK {
		t.Errorf("Encode(%+v) is %.300q, %d, not %.300q", r, got, e, want)
	}
}

func expectNoEncode(t *testing.T, r Reply) {
	t.Helper()
	if got, e := Encode(r); got != "" || e != api.ErrForm {
		t.Errorf("Encode(%+v) is %.300q, %d, not ErrForm alone", r, got, e)
	}
}

func expectError(t *testing.T, s string, want api.Errno) {
	t.Helper()
	if r, n, e := Parse(s); !isZero(r) || n != 0 || e != want {
		t.Errorf("Parse(%.300q) is %+v, %d, %d, not %d alone", s, r, n, e, want)
	}
}

// expectParse: s is the bytes of want, alone and with whatever behind it; at
// each of its beginnings more is needed.
func expectParse(t *testing.T, s string, want Reply) {
	t.Helper()
	for _, behind := range []string{"", "\r", "\n", "\r\n", "\r\n\r\n", "x", "HTTP", "HTTP/1.1 200 OK\r\n\r\n", "Content-Length: 9\r\n\r\n", "\x00\xFF", s} {
		if r, n, e := Parse(s + behind); !sameReply(r, want) || n != len(s) || e != api.OK {
			t.Errorf("Parse(%.300q) is %+v, %d, %d, not %+v, %d", s+behind, r, n, e, want, len(s))
		}
	}
	for i := range min(len(s), 300) {
		expectError(t, s[:i], api.ErrMore)
		expectError(t, s[:len(s)-1-i], api.ErrMore)
	}
}

// P13.1: Reason of each status that the chapter names, and of all others.
func TestReason(t *testing.T) {
	statuses := []int{math.MinInt, math.MaxInt, 1 << 32, 1<<32 + 200, -200, -404}
	for status := -1; status < 2000; status++ {
		statuses = append(statuses, status)
	}
	for _, status := range statuses {
		want, ok := words[status]
		if !ok {
			want = "Unknown"
		}
		if got := Reason(status); got != want {
			t.Errorf("Reason(%d) is %q, not %q", status, got, want)
		}
	}
}

// P13.1: Bare of 204 and 304 alone.
func TestBare(t *testing.T) {
	statuses := []int{math.MinInt, math.MaxInt, 1<<32 + 204, -204, -304}
	for status := -1; status < 2000; status++ {
		statuses = append(statuses, status)
	}
	for _, status := range statuses {
		if got := Bare(status); got != (status == 204 || status == 304) {
			t.Errorf("Bare(%d) is %v", status, got)
		}
	}
}

// P13.1: Of has no fields; of a bare status no body.
func TestOf(t *testing.T) {
	for _, status := range []int{math.MinInt, -204, 0, 199, 200, 203, 204, 205, 303, 304, 305, 404, 599, 600, math.MaxInt} {
		for _, body := range []string{"", "x", "{}", everyByte()} {
			want := Reply{Status: status, Body: body}
			if status == 204 || status == 304 {
				want.Body = ""
			}
			if got := Of(status, body); !sameReply(got, want) || len(got.Fields) != 0 {
				t.Errorf("Of(%d, %q) is %+v", status, body, got)
			}
		}
	}
}

// P13.1: Encode of ordinary replies; example 1.
func TestEncode(t *testing.T) {
	expectEncode(t, Of(404, ""), "HTTP/1.1 404 Not Found\r\nContent-Length: 0\r\n\r\n")
	expectEncode(t, Of(200, "{}"), "HTTP/1.1 200 OK\r\nContent-Length: 2\r\n\r\n{}")
	expectEncode(t, Of(204, "{}"), "HTTP/1.1 204 No Content\r\n\r\n")
	expectEncode(t, Of(304, ""), "HTTP/1.1 304 Not Modified\r\n\r\n")
	expectEncode(t, Reply{Status: 201, Fields: []head.Field{{Name: "ETag", Value: `"v1"`}}, Body: "{}"}, lines("HTTP/1.1 201 Created", `ETag: "v1"`, "Content-Length: 2", "")+"{}")
	expectEncode(t, Reply{Status: 304, Fields: []head.Field{{Name: "ETag", Value: `"v1"`}, {Name: "b", Value: "c"}}}, lines("HTTP/1.1 304 Not Modified", `ETag: "v1"`, "b: c", ""))
	// In their order, one twice, one without a byte.
	fields := []head.Field{{Name: "b", Value: "2"}, {Name: "a", Value: ""}, {Name: "b", Value: "2"}, {Name: "Content-Lengt", Value: "x y\tz"}, {Name: "!#$%&'*+-.^_`|~09azAZ", Value: "a: b: \xFFé,;"}, {Name: "Content-Length-", Value: "7"}, {Name: "Transfer-Encoding", Value: "chunked"}}
	expectEncode(t, Reply{Status: 507, Fields: fields, Body: "\r\n"}, lines("HTTP/1.1 507 Insufficient Storage", "b: 2", "a: ", "b: 2", "Content-Lengt: x y\tz", "!#$%&'*+-.^_`|~09azAZ: a: b: \xFFé,;", "Content-Length-: 7", "Transfer-Encoding: chunked", "Content-Length: 2", "")+"\r\n")
}

// P13.1: all statuses: ErrForm below 200 and above 599.
func TestEncodeOfEveryStatus(t *testing.T) {
	for status := -1; status < 2000; status++ {
		r := Of(status, "ab")
		if status < 200 || status > 599 {
			expectNoEncode(t, r)
			continue
		}
		word, ok := words[status]
		if !ok {
			word = "Unknown"
		}
		want := "HTTP/1.1 " + strconv.Itoa(status) + " " + word + "\r\n"
		if status == 204 || status == 304 {
			want += "\r\n"
			expectNoEncode(t, Reply{Status: status, Body: "a"})
			expectNoEncode(t, Reply{Status: status, Body: "\x00"})
		} else {
			want += "Content-Length: 2\r\n\r\nab"
		}
		expectEncode(t, r, want)
		expectParse(t, want, r)
	}
	for _, status := range []int{199, 600, 0, -200, -404, 20, 2000, math.MinInt, math.MaxInt, 1<<32 + 200, -1<<32 + 200} {
		expectNoEncode(t, Of(status, ""))
		expectNoEncode(t, Of(status, "x"))
	}
}

// P13.1: fields that are not right, alone and among others.
func TestEncodeOfWrongFields(t *testing.T) {
	for _, f := range []head.Field{
		{}, {Name: "", Value: "x"}, {Name: "a b", Value: "x"}, {Name: " a", Value: "x"}, {Name: "a ", Value: "x"}, {Name: "a\t", Value: ""}, {Name: " "}, {Name: "a:", Value: "x"}, {Name: ":", Value: "x"}, {Name: ":a", Value: "x"}, {Name: "a:b", Value: "x"}, {Name: "a: b", Value: "x"}, {Name: "a: "},
		{Name: "é", Value: "x"}, {Name: "a\xFF", Value: "x"}, {Name: "a\r\nb", Value: "x"}, {Name: "a\n", Value: "x"}, {Name: "a\x00", Value: "x"}, {Name: "a\x7F", Value: "x"}, {Name: "(a)", Value: "x"}, {Name: "a=b", Value: "x"}, {Name: `"a"`, Value: "x"},
		{Name: "a", Value: " x"}, {Name: "a", Value: "x "}, {Name: "a", Value: "\tx"}, {Name: "a", Value: "x\t"}, {Name: "a", Value: " "}, {Name: "a", Value: "\t"}, {Name: "a", Value: " x y "},
		{Name: "a", Value: "x\r"}, {Name: "a", Value: "x\n"}, {Name: "a", Value: "\r\n"}, {Name: "a", Value: "x\r\nb: y"}, {Name: "a", Value: "x\r\n y"}, {Name: "a", Value: "\x00"}, {Name: "a", Value: "x\x1Fy"}, {Name: "a", Value: "\x7F"}, {Name: "a", Value: "\v"},
		{Name: "Content-Length", Value: "0"}, {Name: "content-length", Value: "0"}, {Name: "CONTENT-LENGTH", Value: "2"}, {Name: "cOnTeNt-lEnGtH", Value: ""}, {Name: "content-LENGTH", Value: "x"}, {Name: "Content-Length", Value: "-1"},
	} {
		fine := head.Field{Name: "b", Value: "c"}
		for _, l := range [][]head.Field{{f}, {f, fine}, {fine, f}, {fine, f, fine}, {f, f}} {
			for _, status := range []int{200, 204, 304, 404, 599} {
				expectNoEncode(t, Reply{Status: status, Fields: l})
			}
			expectNoEncode(t, Reply{Status: 200, Fields: l, Body: "xy"})
			expectNoEncode(t, Reply{Status: 199, Fields: l})
		}
	}
}

// isToken, isValueByte: as layers 1 and 10 name a name's and a value's bytes.
func isToken(c int) bool {
	return 'a' <= c && c <= 'z' || 'A' <= c && c <= 'Z' || '0' <= c && c <= '9' || c != 0 && c < 0x80 && strings.ContainsRune("!#$%&'*+-.^_`|~", rune(c))
}

func isValueByte(c int) bool { return c == 9 || 0x20 <= c && c <= 0x7E || c >= 0x80 }

// P13.1: each byte in a name and in a value: alone, first, within, last.
func TestEveryByteInFields(t *testing.T) {
	for c := range 256 {
		x := string([]byte{byte(c)})
		expect := func(f head.Field, may bool) {
			t.Helper()
			r := Reply{Status: 200, Fields: []head.Field{f}, Body: "ab"}
			if !may {
				expectNoEncode(t, r)
				return
			}
			s := lines("HTTP/1.1 200 OK", f.Name+": "+f.Value, "Content-Length: 2", "") + "ab"
			expectEncode(t, r, s)
			expectParse(t, s, r)
		}
		for _, name := range []string{x, x + "a", "a" + x, "a" + x + "b"} {
			expect(head.Field{Name: name, Value: "y"}, isToken(c))
			expect(head.Field{Name: name}, isToken(c))
		}
		blank := c == ' ' || c == '\t'
		expect(head.Field{Name: "a", Value: "x" + x + "y"}, isValueByte(c))
		for _, value := range []string{x, x + "y", "y" + x, x + "y" + x} {
			expect(head.Field{Name: "a", Value: value}, isValueByte(c) && !blank)
		}
	}
}

// P13.1, P13.3: bodies of any bytes, and of many.
func TestBodies(t *testing.T) {
	long := strings.Repeat(everyByte(), 1000)
	for _, body := range []string{
		"", "a", "\x00", "\r", "\n", "\r\n", "\r\n\r\n", "\r\n\r\n\r\n", "HTTP/1.1 200 OK\r\nContent-Length: 0\r\n\r\n", "Content-Length: 7\r\n\r\n", "é", "\xFF\xFE", everyByte(), "012345678", "0123456789", long,
	} {
		s := lines("HTTP/1.1 410 Gone", "a: b", "Content-Length: "+strconv.Itoa(len(body)), "") + body
		r := Reply{Status: 410, Fields: []head.Field{{Name: "a", Value: "b"}}, Body: body}
		expectEncode(t, r, s)
		expectParse(t, s, r)
	}
}

// P13.2: two replies, one behind the other; a bare one first, too.
func TestOneBehindTheOther(t *testing.T) {
	l := []Reply{
		Of(200, "{}"), Of(204, ""), Of(404, ""), {Status: 304, Fields: []head.Field{{Name: "ETag", Value: `"v1"`}}}, {Status: 201, Fields: []head.Field{{Name: "a", Value: ""}}, Body: "\r\n\r\n"}, Of(299, "HTTP/1.1 204 No Content\r\n\r\n"),
	}
	for _, a := range l {
		for _, b := range l {
			first, _ := Encode(a)
			second, _ := Encode(b)
			s := first + second
			r, n, e := Parse(s)
			if !sameReply(r, a) || n != len(first) || e != api.OK {
				t.Errorf("Parse(%q) is %+v, %d, %d", s, r, n, e)
			}
			expectParse(t, s[n:], b)
		}
	}
}

// P13.2: what has its empty line, and bytes enough, and is none: ErrForm, with
// whatever behind it, too.
func TestParseOfWrongTexts(t *testing.T) {
	const fine = "HTTP/1.1 200 OK"
	for _, s := range []string{
		// Another version, and none.
		lines("HTTP/1.0 200 OK", "Content-Length: 0", ""), lines("HTTP/1.2 200 OK", "Content-Length: 0", ""), lines("HTTP/2.0 200 OK", "Content-Length: 0", ""), lines("http/1.1 200 OK", "Content-Length: 0", ""), lines("HTTP/1.1200 OK", "Content-Length: 0", ""), lines("HTTP/11 200 OK", "Content-Length: 0", ""),
		lines(" "+fine, "Content-Length: 0", ""), lines("HTTP/1.1  200 OK", "Content-Length: 0", ""), lines("HTTP/1.1\t200 OK", "Content-Length: 0", ""), lines("200 OK", "Content-Length: 0", ""), lines("OK", "Content-Length: 0", ""), lines("GET / HTTP/1.1", "Content-Length: 0", ""),
		// Statuses of other digits, or out of their bounds.
		lines("HTTP/1.1 20 OK", "Content-Length: 0", ""), lines("HTTP/1.1 20 Unknown", "Content-Length: 0", ""), lines("HTTP/1.1 2000 OK", "Content-Length: 0", ""), lines("HTTP/1.1 2000 Unknown", "Content-Length: 0", ""), lines("HTTP/1.1 0200 OK", "Content-Length: 0", ""), lines("HTTP/1.1 +200 OK", "Content-Length: 0", ""), lines("HTTP/1.1 -200 Unknown", "Content-Length: 0", ""),
		lines("HTTP/1.1 199 Unknown", "Content-Length: 0", ""), lines("HTTP/1.1 600 Unknown", "Content-Length: 0", ""), lines("HTTP/1.1 100 Unknown", "Content-Length: 0", ""), lines("HTTP/1.1 099 Unknown", "Content-Length: 0", ""), lines("HTTP/1.1 2x0 Unknown", "Content-Length: 0", ""), lines("HTTP/1.1 200", "Content-Length: 0", ""), lines("HTTP/1.1 ", "Content-Length: 0", ""), lines("HTTP/1.1  OK", "Content-Length: 0", ""), lines("HTTP/1.1 99999999999999999999 Unknown", "Content-Length: 0", ""), lines("HTTP/1.1 ٢٠٠ OK", "Content-Length: 0", ""),
		// Other words than its own.
		lines("HTTP/1.1 200 Fine", "Content-Length: 0", ""), lines("HTTP/1.1 200 Ok", "Content-Length: 0", ""), lines("HTTP/1.1 200 ", "Content-Length: 0", ""), lines("HTTP/1.1 200 OK ", "Content-Length: 0", ""), lines("HTTP/1.1 200  OK", "Content-Length: 0", ""), lines("HTTP/1.1 200 OKAY", "Content-Length: 0", ""), lines("HTTP/1.1 200 Unknown", "Content-Length: 0", ""), lines("HTTP/1.1 202 Accepted", "Content-Length: 0", ""), lines("HTTP/1.1 404 Gone", "Content-Length: 0", ""), lines("HTTP/1.1 200\tOK", "Content-Length: 0", ""), lines("HTTP/1.1 204 OK", ""), lines("HTTP/1.1 304 No Content", ""), lines("HTTP/1.1 205 No Content", ""),
		// Fields that are written otherwise.
		lines(fine, "a:  b", "Content-Length: 0", ""), lines(fine, "a:b", "Content-Length: 0", ""), lines(fine, "a : b", "Content-Length: 0", ""), lines(fine, "a: b ", "Content-Length: 0", ""), lines(fine, "a:\tb", "Content-Length: 0", ""), lines(fine, "a:", "Content-Length: 0", ""), lines(fine, "a:  ", "Content-Length: 0", ""), lines(fine, " a: b", "Content-Length: 0", ""), lines(fine, "a b", "Content-Length: 0", ""), lines(fine, ": b", "Content-Length: 0", ""), lines(fine, "a: b\n", "Content-Length: 0", ""), lines(fine, "a: \rb", "Content-Length: 0", ""), lines(fine, "a: \x00", "Content-Length: 0", ""), lines(fine, "a: b", " c", "Content-Length: 0", ""), lines(fine, "a", "Content-Length: 0", ""),
		lines("HTTP/1.1 204 No Content", "a:b", ""), lines("HTTP/1.1 204 No Content", "a:  b", ""), lines("HTTP/1.1 304 Not Modified", "a", ""),
		// Lengths that are written otherwise.
		lines(fine, "Content-Length: 00", ""), lines(fine, "Content-Length: 02", "") + "ab", lines(fine, "Content-Length: 0000000000000000000000000000002", "") + "ab", lines(fine, "Content-Length: +2", "") + "ab", lines(fine, "Content-Length: +0", ""), lines(fine, "Content-Length: -0", ""), lines(fine, "Content-Length: -2", "") + "ab", lines(fine, "Content-Length: ", ""), lines(fine, "Content-Length:", ""), lines(fine, "Content-Length: x", ""), lines(fine, "Content-Length: 2x", "") + "ab", lines(fine, "Content-Length: 0x2", "") + "ab", lines(fine, "Content-Length: 2 2", "") + "ab", lines(fine, "Content-Length: 2,2", "") + "ab", lines(fine, "Content-Length: 2.0", "") + "ab", lines(fine, "Content-Length: ٢", "") + "ab",
		lines(fine, "Content-Length:  2", "") + "ab", lines(fine, "Content-Length:2", "") + "ab", lines(fine, "Content-Length : 2", "") + "ab", lines(fine, "Content-Length: 2 ", "") + "ab", lines(fine, "Content-Length:\t2", "") + "ab", lines(fine, "content-length: 2", "") + "ab", lines(fine, "CONTENT-LENGTH: 2", "") + "ab", lines(fine, "Content-length: 0", ""), lines(fine, " Content-Length: 0", ""), lines(fine, "Content-Lengths: 0", ""), lines(fine, "Content-Length 0", ""),
		// A length twice, elsewhere, none of it, of a bare status.
		lines(fine, "Content-Length: 2", "Content-Length: 2", "") + "ab", lines(fine, "Content-Length: 0", "Content-Length: 0", ""), lines(fine, "Content-Length: 9", "Content-Length: 2", "") + "ab", lines(fine, "content-length: 2", "Content-Length: 2", "") + "ab", lines(fine, "Content-Length: 2", "a: b", "") + "ab", lines(fine, "Content-Length: 9", "a: b", "") + "ab",
		lines(fine, ""), lines(fine, "") + "ab", lines(fine, "a: b", ""), lines(fine, "a: b", "c: d", ""), lines("HTTP/1.1 404 Not Found", ""), lines("HTTP/1.1 203 Unknown", ""), lines("HTTP/1.1 205 Unknown", ""), lines("HTTP/1.1 303 Unknown", ""), lines("HTTP/1.1 305 Unknown", ""),
		lines("HTTP/1.1 204 No Content", "Content-Length: 0", ""), lines("HTTP/1.1 304 Not Modified", "Content-Length: 0", ""), lines("HTTP/1.1 304 Not Modified", "Content-Length: 2", "") + "ab", lines("HTTP/1.1 204 No Content", "content-length: 0", ""), lines("HTTP/1.1 304 Not Modified", "Content-Length: 0", "a: b", ""), lines("HTTP/1.1 304 Not Modified", "a: b", "Content-Length: 0", ""),
		// Empty lines first, other lines' ends, a body's bytes alone.
		"\r\n\r\n", "\r\n\r\n\r\n", "\r\n" + lines(fine, "Content-Length: 0", ""), "x\r\n\r\n", "\n\r\n\r\n", "\r\r\n\r\n", "\x00\r\n\r\n", "\xFF\r\n\r\n", fine + "\n" + lines("Content-Length: 0", ""), fine + "\r" + lines("Content-Length: 0", ""), fine + "\n\r" + lines("Content-Length: 0", ""), fine + "\r\r\n" + lines("Content-Length: 0", ""), "x" + lines(fine, "Content-Length: 0", ""), "ab" + lines(fine, "Content-Length: 0", ""), lines("Content-Length: 0", ""), lines("Content-Length: 2", "") + "ab",
	} {
		for _, behind := range []string{"", "x", "\r\n", "ab", lines(fine, "Content-Length: 0", ""), "\x00\xFF"} {
			expectError(t, s+behind, api.ErrForm)
		}
	}
}

// P13.2: more bytes are needed while there is no empty line, however wrong it
// is by then.
func TestMoreUpToEmptyLine(t *testing.T) {
	for _, s := range []string{
		"", "H", "x", "\x00", "\xFF", "\r", "\n", "\r\n", "\r\n\r", "\n\n", "\n\r\n\r", "\r\r\n\n", "HTTP/1.1", "HTTP/1.1 200 OK", "HTTP/1.1 200 OK\r\n", "HTTP/1.1 200 OK\r\n\r", "HTTP/1.1 200 OK\n\n", "HTTP/1.1 200 OK\r\n\n", "HTTP/1.1 200 OK\n\r\n", "HTTP/1.0 200 OK\r\n", "HTTP/1.1 999 OK\r\n", "HTTP/1.1 200 Fine\r\nx\r\n", "GET / HTTP/1.1\r\nHost: x\r\n",
		"HTTP/1.1 200 OK\r\nContent-Length: x\r\n", "HTTP/1.1 200 OK\r\nContent-Length: 99999999999\r\n", "HTTP/1.1 204 No Content\r\nContent-Length: 0\r\n", strings.Repeat("x", 100000), strings.Repeat("x\r\n", 100000), strings.Repeat("\r\nx", 100000), strings.Repeat("\n", 100000), strings.Repeat("\r", 100000),
	} {
		expectError(t, s, api.ErrMore)
		// With it, nothing that is wrong may be waited for any more.
		if r, n, e := Parse(s + "\r\n\r\nx"); !isZero(r) || n != 0 || e == api.OK || e == api.ErrMore && !strings.Contains(s, "999999") {
			t.Errorf("Parse(%.300q) is %+v, %d, %d", s+"\r\n\r\nx", r, n, e)
		}
	}
}

// P13.2: more bytes are needed while there are fewer behind the first empty
// line than the line ahead of it says by Content-Length.
func TestMoreUpToLength(t *testing.T) {
	const fine = "HTTP/1.1 200 OK"
	body := "0123456789"
	for n := range len(body) + 1 {
		s := lines(fine, "a: b", "Content-Length: "+strconv.Itoa(n), "")
		for come := range len(body) + 1 {
			if come < n {
				expectError(t, s+body[:come], api.ErrMore)
				continue
			}
			want := Reply{Status: 200, Fields: []head.Field{{Name: "a", Value: "b"}}, Body: body[:n]}
			if r, size, e := Parse(s + body[:come]); !sameReply(r, want) || size != len(s)+n || e != api.OK {
				t.Errorf("Parse(%q) is %+v, %d, %d", s+body[:come], r, size, e)
			}
		}
	}
	// Numbers beyond 2^31 say more than ever comes.
	for _, digits := range []string{"3", "10", "2147483647", "2147483648", "4294967296", "4294967298", "9223372036854775807", "9223372036854775808", "18446744073709551616", "18446744073709551618", strings.Repeat("9", 100)} {
		for _, s := range []string{
			lines(fine, "Content-Length: "+digits, ""),
			// It is told ahead of whatever else is wrong.
			lines("HTTP/1.1 200 Fine", "Content-Length: "+digits, ""),
			lines("HTTP/1.0 2000", "x", "Content-Length: 0", "Content-Length: "+digits, ""),
			lines("HTTP/1.1 204 No Content", "Content-Length: "+digits, ""),
			lines("HTTP/1.1 304 Not Modified", "Content-Length: "+digits, ""),
			lines(fine, "Content-Length: 0"+digits, ""),
			lines("Content-Length: "+digits, ""),
		} {
			for _, behind := range []string{"", "a", "\r\n"} {
				expectError(t, s+behind, api.ErrMore)
			}
		}
	}
	// The line ahead of the first empty line says it, no other one.
	expectError(t, lines(fine, "Content-Length: 9", "a: b", "")+"ab", api.ErrForm)
	expectError(t, lines(fine, "Content-Length: 9", "Content-Length: 0", "")+"ab", api.ErrForm)
	expectError(t, lines(fine, "", "Content-Length: 9", "")+"ab", api.ErrForm)
	expectError(t, lines(fine, "Content-Length: 9x", "")+"ab", api.ErrForm)
	expectError(t, lines(fine, "Content-Length: -9", "")+"ab", api.ErrForm)
	expectError(t, lines(fine, "Content-Length: +9", "")+"ab", api.ErrForm)
	expectError(t, lines(fine, "X-Content-Length: 9", "")+"ab", api.ErrForm)
}

// rightHead is a reply's first line, with any words, and its fields' lines, as
// the chapter writes them, in which runes stand for bytes.
var rightHead = regexp.MustCompile("^HTTP/1\\.1 ([2-5][0-9][0-9]) ([A-Za-z ]*)\r\n" +
	"(?:[-!#$%&'*+.^_`|~0-9A-Za-z]+: (?:[!-~\u0080-\u00FF](?:[\t -~\u0080-\u00FF]*[!-~\u0080-\u00FF])?)?\r\n)*\r\n")

// saidLength is the line ahead of the first empty line, if that is a length's.
var saidLength = regexp.MustCompile(`(?i)^content-length:[ \t]*([0-9]+)[ \t]*$`)

// oneRuneAByte: s with a rune in place of each byte, as expressions go by
// runes.
func oneRuneAByte(s string) string {
	l := make([]rune, len(s))
	for i := range len(s) {
		l[i] = rune(s[i])
	}
	return string(l)
}

// byWords: what Parse answers, as the chapter's words say it.
func byWords(s string) (Reply, int, api.Errno) {
	if r, n, ok := beginning(s); ok {
		return r, n, api.OK
	}
	end := strings.Index(s, "\r\n\r\n")
	if end < 0 {
		return Reply{}, 0, api.ErrMore
	}
	all := strings.Split(s[:end], "\r\n")
	if m := saidLength.FindStringSubmatch(all[len(all)-1]); m != nil {
		if n, err := strconv.Atoi(m[1]); err != nil || len(s)-end-4 < n {
			return Reply{}, 0, api.ErrMore
		}
	}
	return Reply{}, 0, api.ErrForm
}

// beginning: the reply whose bytes s begins with, if there is one.
func beginning(s string) (Reply, int, bool) {
	m := rightHead.FindStringSubmatch(oneRuneAByte(s))
	if m == nil {
		return Reply{}, 0, false
	}
	at := utf8.RuneCountInString(m[0])
	top := s[:at-2] // without the empty line's end
	status, _ := strconv.Atoi(m[1])
	word, ok := words[status]
	if !ok {
		word = "Unknown"
	}
	r := Reply{Status: status}
	size := -1
	fields := strings.Split(strings.TrimSuffix(top, "\r\n"), "\r\n")[1:]
	for i, line := range fields {
		name, value, _ := strings.Cut(line, ": ")
		if strings.EqualFold(name, "Content-Length") {
			n, err := strconv.Atoi(value)
			if i < len(fields)-1 || name != "Content-Length" || err != nil || strconv.Itoa(n) != value || n < 0 {
				return Reply{}, 0, false
			}
			size = n
			continue
		}
		r.Fields = append(r.Fields, head.Field{Name: name, Value: value})
	}
	bare := status == 204 || status == 304
	if m[2] != word || bare != (size < 0) || len(s)-at < size {
		return Reply{}, 0, false
	}
	r.Body = s[at : at+max(size, 0)]
	return r, at + max(size, 0), true
}

// byChance: bytes of a reply, nearly: some lines are wrong, some bytes lack or
// are others, some stand behind it.
func byChance(r *rand.Rand) string {
	one := func(l ...string) string { return l[r.Intn(len(l))] }
	var b strings.Builder
	b.WriteString(one("HTTP/1.1 200 OK", "HTTP/1.1 200 OK", "HTTP/1.1 404 Not Found", "HTTP/1.1 204 No Content", "HTTP/1.1 304 Not Modified", "HTTP/1.1 299 Unknown", "HTTP/1.1 200 Fine", "HTTP/1.1 20 OK", "HTTP/1.0 200 OK") + "\r\n")
	for range r.Intn(3) {
		b.WriteString(one("a: b", "a: b", "a: ", "A: b: c", "a:b", "a:  b", "a : b", "Content-Length: 2", "x", "é: \xFF", "a: \xFFé") + "\r\n")
	}
	body := one("", "a", "ab", "\r\n\r\n", "0123456789")
	size := len(body) + r.Intn(3)*r.Intn(2) - r.Intn(3)*r.Intn(2)
	if r.Intn(4) > 0 {
		b.WriteString(one("Content-Length: ", "Content-Length: ", "Content-Length: ", "content-length: ", "Content-Length:", "Content-Length: 0", "Content-Length: 99999999999") + strconv.Itoa(size) + "\r\n")
	}
	b.WriteString("\r\n" + body)
	s := []byte(b.String())
	for range r.Intn(3) * r.Intn(2) {
		at := r.Intn(len(s))
		switch r.Intn(3) {
		case 0:
			s[at] = one("\r", "\n", " ", ":", "0", "9", "a", "\x00", "\xFF")[0]
		case 1:
			s = slices.Insert(s, at, one("\r", "\n", " ", ":", "0", "9", "a", "\x00", "\xFF")[0])
		default:
			s = slices.Delete(s, at, at+1)
		}
	}
	return string(s)
}

// P13.2: Parse by the chapter's words, of texts by chance, and of all their
// beginnings.
func TestParseByChance(t *testing.T) {
	r := rand.New(rand.NewSource(132))
	seen := map[api.Errno]int{}
	for range 6000 {
		whole := byChance(r)
		for i := range len(whole) + 1 {
			s := whole[:i]
			want, n, e := byWords(s)
			if got, gn, ge := Parse(s); !sameReply(got, want) || gn != n || ge != e {
				t.Fatalf("Parse(%q) is %+v, %d, %d, not %+v, %d, %d", s, got, gn, ge, want, n, e)
			}
			seen[e]++
		}
	}
	for _, e := range []api.Errno{api.OK, api.ErrMore, api.ErrForm} {
		if seen[e] < 1000 {
			t.Errorf("%d was told %d times only", e, seen[e])
		}
	}
}

// P13.2: one byte is another one: all places, all bytes.
func TestEveryByteChanged(t *testing.T) {
	for _, s := range []string{
		lines("HTTP/1.1 201 Created", `ETag: "v1"`, "b: ", "Content-Length: 12", "") + "0123\r\n\r\n4567",
		lines("HTTP/1.1 304 Not Modified", `ETag: "v1"`, "") + "x",
	} {
		for i := range len(s) {
			for c := range 256 {
				b := []byte(s)
				b[i] = byte(c)
				x := string(b)
				want, n, e := byWords(x)
				if got, gn, ge := Parse(x); !sameReply(got, want) || gn != n || ge != e {
					t.Fatalf("Parse(%q) is %+v, %d, %d, not %+v, %d, %d", x, got, gn, ge, want, n, e)
				}
			}
		}
	}
}

// P13.3: Parse of Encode is the reply.
func TestParseOfEncode(t *testing.T) {
	r := rand.New(rand.NewSource(133))
	text := func(from string, most int) string {
		b := make([]byte, r.Intn(most))
		for i := range b {
			b[i] = from[r.Intn(len(from))]
		}
		return string(b)
	}
	var names, values []byte
	for c := range 256 {
		if isToken(c) {
			names = append(names, byte(c))
		}
		if isValueByte(c) {
			values = append(values, byte(c))
		}
	}
	for range 3000 {
		x := Of(200+r.Intn(400), text(everyByte(), 30))
		for range r.Intn(4) {
			x.Fields = append(x.Fields, head.Field{Name: "x" + text(string(names), 6), Value: strings.Trim(text(string(values), 12), " \t")})
		}
		s, e := Encode(x)
		if e != api.OK {
			t.Fatalf("Encode(%+v) is %d", x, e)
		}
		expectParse(t, s, x)
	}
}

// Rules 4 and 5: no call changes what it is given, or is seen in another one's
// answer.
func TestAnswersShareNothing(t *testing.T) {
	in := Reply{Status: 200, Fields: []head.Field{{Name: "a", Value: "b"}, {Name: "c", Value: "d"}}, Body: "x"}
	s, _ := Encode(in)
	if !slices.Equal(in.Fields, []head.Field{{Name: "a", Value: "b"}, {Name: "c", Value: "d"}}) {
		t.Errorf("it became %+v", in)
	}
	in.Fields[0] = head.Field{Name: "spoilt"}
	first, _, _ := Parse(s)
	first.Fields[0] = head.Field{Name: "spoilt"}
	_ = append(first.Fields[:1], head.Field{Name: "spoilt"})
	expectParse(t, s, Reply{Status: 200, Fields: []head.Field{{Name: "a", Value: "b"}, {Name: "c", Value: "d"}}, Body: "x"})
	one := Of(200, "x")
	_ = append(one.Fields, head.Field{Name: "spoilt"})
	if got := Of(200, "x"); len(got.Fields) != 0 {
		t.Errorf("Of(200) has %q", got.Fields)
	}
}

// P1: many fields, and many replies, end soon.
func TestLongReplies(t *testing.T) {
	const many = 1 << 17
	x := Reply{Status: 200, Fields: slices.Repeat([]head.Field{{Name: "a", Value: "b"}}, many), Body: strings.Repeat("\r\n\r\n", many)}
	s, e := Encode(x)
	if e != api.OK || len(s) != len("HTTP/1.1 200 OK\r\n")+many*len("a: b\r\n")+len("Content-Length: 524288\r\n\r\n")+len(x.Body) {
		t.Error(len(s), e)
	}
	if r, n, e := Parse(s); !sameReply(r, x) || n != len(s) || e != api.OK {
		t.Error(len(r.Fields), n, e)
	}
	s = strings.Repeat(lines("HTTP/1.1 404 Not Found", "Content-Length: 0", ""), many)
	got := 0
	for s != "" {
		_, n, e := Parse(s)
		if e != api.OK {
			t.Fatal(got, e)
		}
		s = s[n:]
		got++
	}
	if got != many {
		t.Error(got)
	}
	expectError(t, strings.Repeat("a: b\r\n", many), api.ErrMore)
	expectError(t, strings.Repeat("a: b\r\n", many)+"\r\n", api.ErrForm)
	expectError(t, "HTTP/1.1 "+strings.Repeat("9", many)+"\r\n\r\n", api.ErrForm)
}

// P1: no call panics, whatever it is given; what Parse takes Encode gives back.
func FuzzParse(f *testing.F) {
	f.Add("HTTP/1.1 200 OK\r\na: b\r\nContent-Length: 2\r\n\r\nab", 200, "a", "b")
	f.Add("HTTP/1.1 204 No Content\r\n\r\n", 204, "Content-Length", "0")
	f.Add("\r\n\r\n", -1, "", " ")
	f.Add("HTTP/1.1 200 OK\r\nContent-Length: 99999999999999999999\r\n\r\n", 600, "a:", "\r\n")
	f.Fuzz(func(t *testing.T, s string, status int, name, value string) {
		want, n, e := byWords(s)
		got, gn, ge := Parse(s)
		if !sameReply(got, want) || gn != n || ge != e {
			t.Errorf("Parse(%q) is %+v, %d, %d, not %+v, %d, %d", s, got, gn, ge, want, n, e)
		}
		if b, e := Encode(got); ge == api.OK && (b != s[:gn] || e != api.OK) {
			t.Errorf("Encode(%+v) is %q, %d, not %q", got, b, e, s[:gn])
		}
		x := Reply{Status: status, Fields: []head.Field{{Name: name, Value: value}}, Body: s}
		if b, e := Encode(x); e == api.OK {
			expectParse(t, b, x)
		}
		if x := Of(status, s); Bare(status) && x.Body != "" {
			t.Errorf("Of(%d) is %+v", status, x)
		}
	})
}
