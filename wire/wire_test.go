package wire

import (
	"math"
	"math/rand"
	"slices"
	"strconv"
	"strings"
	"testing"

	"larum/chunk"
	"larum/head"
)

// wide are limits that ordinary requests are far from.
var wide = head.Limits{Line: 8192, Fields: 100, Body: 1048576}

// small are limits that are met soon.
var small = head.Limits{Line: 40, Fields: 3, Body: 6}

// lines: the lines with an end behind each.
func lines(l ...string) string {
	var b strings.Builder
	for _, line := range l {
		b.WriteString(line + "\r\n")
	}
	return b.String()
}

// Requests as bytes, and what they are.
var (
	bare    = lines("GET / HTTP/1.0", "")
	hosted  = lines("GET /b HTTP/1.1", "Host: x", "")
	sized   = lines("POST /a HTTP/1.1", "Host: x", "Content-Length: 4", "") + "h\r\ni"
	chunked = lines("PUT /c HTTP/1.1", "host:x", "Transfer-Encoding: chunked", "") + lines("2", "ab", "3;x=y", "\r\nc", "0", "A: b", "")

	bareIs    = Request{head.Head{Method: "GET", Target: "/", Minor: 0}, ""}
	hostedIs  = Request{head.Head{Method: "GET", Target: "/b", Minor: 1, Fields: []head.Field{{Name: "Host", Value: "x"}}}, ""}
	sizedIs   = Request{head.Head{Method: "POST", Target: "/a", Minor: 1, Fields: []head.Field{{Name: "Host", Value: "x"}, {Name: "Content-Length", Value: "4"}}}, "h\r\ni"}
	chunkedIs = Request{head.Head{Method: "PUT", Target: "/c", Minor: 1, Fields: []head.Field{{Name: "host", Value: "x"}, {Name: "Transfer-Encoding", Value: "chunked"}}}, "ab\r\nc"}
)

// wrong are texts that tell a status with their last byte, and not ahead of
// that.
var wrong = []struct {
	s    string
	want int
}{
	// A head's.
	{lines("GET c HTTP/1.1"), 400},
	{lines(""), 400},
	{lines("GET / HTTP/1.1", ""), 400},
	{lines("GET / HTTP/1.1", "a"), 400},
	{strings.Repeat("x", 42), 414},
	{lines("GET / HTTP/1.1") + strings.Repeat("y", 42), 431},
	{lines("GET / HTTP/1.0", "a:b", "c:d", "e:f", "g:h"), 431},
	{lines("BREW / HTTP/1.1"), 501},
	{lines("GET / HTTP/2.0"), 505},
	// Body's: with the head's end, whatever stands behind it.
	{lines("GET / HTTP/1.0", "Content-Length: x", ""), 400},
	{lines("GET / HTTP/1.0", "Content-Length:", ""), 400},
	{lines("GET / HTTP/1.0", "Content-Length: 1", "content-length: 1", ""), 400},
	{lines("PUT / HTTP/1.1", "Host: x", "Content-Length: 1", "Transfer-Encoding: chunked", ""), 400},
	{lines("GET / HTTP/1.0", "Transfer-Encoding: chunked", ""), 400},
	{lines("PUT / HTTP/1.1", "Host: x", "Transfer-Encoding: gzip", ""), 501},
	{lines("GET / HTTP/1.0", "Content-Length: 7", ""), 413},
	{lines("GET / HTTP/1.0", "Content-Length: 99999999999999999999", ""), 413},
	// The chunks'.
	{inChunks("x\r\n"), 400},
	{inChunks("0 \r\n"), 400},
	{inChunks(strings.Repeat("0", 42)), 400},
	{inChunks("7\r\n"), 413},
	{inChunks("3\r\nabc\r\n4\r\n"), 413},
	{inChunks("3\r\nabcd"), 400},
	{inChunks("3\r\nabc\rd"), 400},
	{inChunks("0\r\nx\r\n"), 400},
	{inChunks("0\r\na:b\r\nc:d\r\ne:f\r\ng:h\r\n"), 431},
	{inChunks("0\r\n" + strings.Repeat("x", 42)), 431},
}

// inChunks: a request that says its body comes in chunks, and that as it is.
func inChunks(body string) string {
	return lines("PUT / HTTP/1.1", "Host: x", "Transfer-Encoding: Chunked", "") + body
}

func sameRequest(a, b Request) bool {
	return a.Body == b.Body && a.Head.Method == b.Head.Method && a.Head.Target == b.Head.Target && a.Head.Minor == b.Head.Minor && slices.Equal(a.Head.Fields, b.Head.Fields)
}

func sameRequests(a, b []Request) bool { return slices.EqualFunc(a, b, sameRequest) }

func zeroRequest(r Request) bool { return sameRequest(r, Request{}) && r.Head.Fields == nil }

func expectAll(t *testing.T, s string, l head.Limits, n, status int, want ...Request) {
	t.Helper()
	if got, gn, gst := All(s, l); !sameRequests(got, want) || gn != n || gst != status {
		t.Errorf("All(%.300q, %+v) is %+v, %d, %d, not %+v, %d, %d", s, l, got, gn, gst, want, n, status)
	}
}

// P12.1: All of nothing, of one request, of several.
func TestAll(t *testing.T) {
	expectAll(t, "", wide, 0, head.More)
	expectAll(t, bare, wide, len(bare), head.More, bareIs)
	expectAll(t, hosted, wide, len(hosted), head.More, hostedIs)
	expectAll(t, sized, wide, len(sized), head.More, sizedIs)
	expectAll(t, chunked, wide, len(chunked), head.More, chunkedIs)
	s := bare + sized + chunked + hosted + sized + sized + bare
	expectAll(t, s, wide, len(s), head.More, bareIs, sizedIs, chunkedIs, hostedIs, sizedIs, sizedIs, bareIs)
	expectAll(t, s, small, len(s), head.More, bareIs, sizedIs, chunkedIs, hostedIs, sizedIs, sizedIs, bareIs)
}

// P12.1: All of several and each beginning of one.
func TestAllWithBeginnings(t *testing.T) {
	for _, last := range []string{bare, hosted, sized, chunked} {
		for i := range len(last) {
			expectAll(t, last[:i], wide, 0, head.More)
			expectAll(t, sized+last[:i], wide, len(sized), head.More, sizedIs)
			expectAll(t, chunked+bare+last[:i], wide, len(chunked+bare), head.More, chunkedIs, bareIs)
		}
	}
}

// P12.1: All with a status: at once, between requests, behind them; what
// stands behind it says nothing.
func TestAllWithStatus(t *testing.T) {
	for _, k := range wrong {
		for _, behind := range []string{"", "\r\n", "x", bare, strings.Repeat("x", 100)} {
			expectAll(t, k.s+behind, small, 0, k.want)
			expectAll(t, bare+k.s+behind, small, len(bare), k.want, bareIs)
			expectAll(t, sized+chunked+k.s+behind, small, len(sized+chunked), k.want, sizedIs, chunkedIs)
		}
		for i := range len(k.s) {
			expectAll(t, sized+k.s[:i], small, len(sized), head.More, sizedIs)
		}
		for _, other := range wrong {
			expectAll(t, hosted+k.s+other.s, small, len(hosted), k.want, hostedIs)
		}
	}
	// A head that has not ended tells nothing of its body yet.
	expectAll(t, lines("GET / HTTP/1.0", "Content-Length: 99"), small, 0, head.More)
	expectAll(t, lines("GET / HTTP/1.0", "Content-Length: 99", "a"), small, 0, 400)
}

// P12.1: a body's bytes are just its size's, whatever they are; the next
// request begins behind them.
func TestBodiesBySize(t *testing.T) {
	for n := range 7 {
		ahead := lines("POST / HTTP/1.0", "Content-Length: "+strconv.Itoa(n), "")
		is := Request{head.Head{Method: "POST", Target: "/", Fields: []head.Field{{Name: "Content-Length", Value: strconv.Itoa(n)}}}, "\r\n\r\n\xFF\x00"[:n]}
		s := ahead + is.Body
		expectAll(t, s, small, len(s), head.More, is)
		expectAll(t, s+s+bare, small, len(s+s+bare), head.More, is, is, bareIs)
		for i := range n {
			expectAll(t, ahead+is.Body[:i], small, 0, head.More)
		}
		if n > 0 {
			l := head.Limits{Line: 40, Fields: 3, Body: n - 1}
			expectAll(t, s, l, 0, 413)
			expectAll(t, ahead, l, 0, 413)
		}
	}
	// Behind a request without a size the next one begins at once.
	expectAll(t, bare+"hi", small, len(bare), head.More, bareIs)
	expectAll(t, bare+"hi\r\n", small, len(bare), 400, bareIs)
	long := strings.Repeat("0123456789abcdef", 1<<16)
	s := lines("PUT / HTTP/1.0", "content-length:1048576", "") + long
	if l, n, status := All(s+s, wide); len(l) != 2 || l[0].Body != long || l[1].Body != long || n != 2*len(s) || status != head.More {
		t.Error(len(l), n, status)
	}
	s = inChunks(chunk.Encode(long, 1000))
	if l, n, status := All(s+s, wide); len(l) != 2 || l[0].Body != long || l[1].Body != long || n != 2*len(s) || status != head.More {
		t.Error(len(l), n, status)
	}
}

// inParts: what a parser takes of parts of bytes, and the status behind that.
// It holds just what it has not taken, and has its status only from a Next on.
func inParts(t *testing.T, l head.Limits, parts ...string) ([]Request, int) {
	t.Helper()
	p := New(l)
	var got []Request
	held := ""
	for _, part := range parts {
		n := p.Feed(part)
		if n != len(part) && p.Status() == 0 || n != 0 && p.Status() != 0 {
			t.Fatalf("%q: Feed of %q is %d, the status %d", parts, part, n, p.Status())
		}
		held += part[:n]
		for {
			if p.Held() != len(held) {
				t.Fatalf("%q: %d held, not %d", parts, p.Held(), len(held))
			}
			status := p.Status()
			r, ok := p.Next()
			if !ok {
				if !zeroRequest(r) {
					t.Fatalf("%q: %+v, false", parts, r)
				}
				break
			}
			if status != 0 || p.Status() != 0 {
				t.Fatalf("%q: a request, the status %d, then %d", parts, status, p.Status())
			}
			got = append(got, r)
			held = held[len(held)-p.Held():]
		}
	}
	return got, p.Status()
}

func expectParts(t *testing.T, l head.Limits, want []Request, status int, parts ...string) {
	t.Helper()
	if got, gst := inParts(t, l, parts...); !sameRequests(got, want) || gst != status {
		t.Errorf("%q is %+v, %d, not %+v, %d", parts, got, gst, want, status)
	}
}

// streams are texts of requests, with what they tell in the end (0: more
// bytes are needed).
var streams = []struct {
	s      string
	want   []Request
	status int
}{
	{bare + sized, []Request{bareIs, sizedIs}, 0},
	{chunked + bare, []Request{chunkedIs, bareIs}, 0},
	{hosted + hosted + "GET /", []Request{hostedIs, hostedIs}, 0},
	{sized + "GET c HTTP/1.1\r\n" + bare, []Request{sizedIs}, 400},
	{bare + inChunks("3\r\nabc\r\n4\r\ndefg\r\n0\r\n\r\n"), []Request{bareIs}, 413},
	{bare + inChunks("3\r\nabcd\r\n0\r\n\r\n"), []Request{bareIs}, 400},
	{bare + lines("PUT / HTTP/1.0", "Content-Length: 7", "") + "abcdefg", []Request{bareIs}, 413},
	{bare + lines("PUT / HTTP/1.1", "Host: x", "Transfer-Encoding: gzip", ""), []Request{bareIs}, 501},
	{bare + strings.Repeat("x", 50), []Request{bareIs}, 414},
}

// P12.3: all cuts into two and three parts, and byte by byte, with nothing
// between the bytes too.
func TestHoweverTheyCome(t *testing.T) {
	for _, k := range streams {
		s := k.s
		told := k.status
		if told == 0 {
			told = head.More
		}
		if got, _, status := All(s, small); !sameRequests(got, k.want) || status != told {
			t.Errorf("All(%q) is %+v, %d", s, got, status)
		}
		expectParts(t, small, k.want, k.status, s)
		for i := range len(s) + 1 {
			for j := i; j <= len(s); j++ {
				expectParts(t, small, k.want, k.status, s[:i], s[i:j], s[j:])
			}
			expectParts(t, small, k.want, k.status, s[:i], s[i:])
		}
		expectParts(t, small, k.want, k.status, strings.Split(s, "")...)
		expectParts(t, small, k.want, k.status, slices.Insert(strings.Split(s, ""), len(s)/2, "", "")...)
		expectParts(t, small, k.want, k.status, slices.Concat([]string{"", ""}, strings.SplitAfter(s, "\n"), []string{""})...)
	}
}

// Example 1: a request comes with its last byte.
func TestByteByByte(t *testing.T) {
	for _, k := range []struct {
		s    string
		want Request
	}{{bare, bareIs}, {hosted, hostedIs}, {sized, sizedIs}, {chunked, chunkedIs}} {
		p := New(wide)
		for i := range len(k.s) {
			if r, ok := p.Next(); ok || !zeroRequest(r) {
				t.Errorf("%q: with %d bytes %+v", k.s, i, r)
			}
			if n := p.Feed(k.s[i : i+1]); n != 1 || p.Held() != i+1 || p.Status() != 0 {
				t.Errorf("%q: Feed is %d, %d held, %d", k.s, n, p.Held(), p.Status())
			}
		}
		if r, ok := p.Next(); !ok || !sameRequest(r, k.want) || p.Held() != 0 || p.Status() != 0 {
			t.Errorf("%q is %+v, %v, %d, %d", k.s, r, ok, p.Held(), p.Status())
		}
	}
}

// P12.2: Next with too few bytes, twice, and when they have come.
func TestNextWithTooFewBytes(t *testing.T) {
	p := New(small)
	s := sized + chunked + hosted
	fed := 0
	for i := 1; i <= len(s); i += 7 {
		fed += p.Feed(s[fed:i])
	}
	fed += p.Feed(s[fed : len(s)-1])
	for i, want := range []Request{sizedIs, chunkedIs} {
		if r, ok := p.Next(); !ok || !sameRequest(r, want) || p.Status() != 0 {
			t.Errorf("request %d is %+v, %v", i, r, ok)
		}
	}
	for range 2 {
		if r, ok := p.Next(); ok || !zeroRequest(r) || p.Held() != len(hosted)-1 || p.Status() != 0 {
			t.Errorf("too few bytes: %+v, %v, %d, %d", r, ok, p.Held(), p.Status())
		}
	}
	if n := p.Feed(s[fed:]); n != 1 {
		t.Errorf("the last byte: %d", n)
	}
	if r, ok := p.Next(); !ok || !sameRequest(r, hostedIs) || p.Held() != 0 {
		t.Errorf("the last one is %+v, %v, %d", r, ok, p.Held())
	}
	for range 2 {
		if r, ok := p.Next(); ok || !zeroRequest(r) || p.Held() != 0 || p.Status() != 0 {
			t.Errorf("no bytes: %+v, %v, %d, %d", r, ok, p.Held(), p.Status())
		}
	}
}

// P12.2: a status is the parser's from a Next on, and stays; Feed takes
// nothing then; what is held stays.
func TestParserWithStatus(t *testing.T) {
	for _, k := range wrong {
		p := New(small)
		s := bare + k.s + bare
		if n := p.Feed(s); n != len(s) || p.Status() != 0 || p.Held() != len(s) {
			t.Errorf("%q: Feed is %d, %d, %d", s, n, p.Status(), p.Held())
		}
		if r, ok := p.Next(); !ok || !sameRequest(r, bareIs) || p.Status() != 0 || p.Held() != len(k.s+bare) {
			t.Errorf("%q: %+v, %v, %d, %d", s, r, ok, p.Status(), p.Held())
		}
		// Bytes are taken still: nobody asked for the next request.
		if n := p.Feed("x"); n != 1 || p.Status() != 0 || p.Held() != len(k.s+bare)+1 {
			t.Errorf("%q: Feed is %d, %d, %d", s, n, p.Status(), p.Held())
		}
		for range 3 {
			if r, ok := p.Next(); ok || !zeroRequest(r) || p.Status() != k.want || p.Held() != len(k.s+bare)+1 {
				t.Errorf("%q: %+v, %v, %d, %d", s, r, ok, p.Status(), p.Held())
			}
			for _, more := range []string{"", "x", bare, strings.Repeat("x", 10000)} {
				if n := p.Feed(more); n != 0 || p.Status() != k.want || p.Held() != len(k.s+bare)+1 {
					t.Errorf("%q: Feed is %d, %d, %d", s, n, p.Status(), p.Held())
				}
			}
		}
		if p.Room() != New(small).Room() {
			t.Errorf("%q: room for %d", s, p.Room())
		}
	}
}

// Words, P12.2: Room, at limits within their bounds, below and above them.
func TestRoom(t *testing.T) {
	for _, k := range []struct {
		l    head.Limits
		want int
	}{
		{head.Limits{Line: 50, Fields: 5, Body: 5}, 50*7 + 5 + 1024},
		{head.Limits{Line: 16, Fields: 1, Body: 0}, 16*3 + 1024},
		{head.Limits{Line: 17, Fields: 2, Body: 1}, 17*4 + 1 + 1024},
		{head.Limits{}, 16*3 + 1024},
		{head.Limits{Line: 15, Fields: 0, Body: -1}, 16*3 + 1024},
		{head.Limits{Line: math.MinInt, Fields: math.MinInt, Body: math.MinInt}, 16*3 + 1024},
		{wide, 8192*102 + 1048576 + 1024},
		{head.Limits{Line: 8193, Fields: 101, Body: 1048577}, 8192*102 + 1048576 + 1024},
		{head.Limits{Line: math.MaxInt, Fields: math.MaxInt, Body: math.MaxInt}, 8192*102 + 1048576 + 1024},
		{head.Limits{Line: 0, Fields: 101, Body: 5}, 16*102 + 5 + 1024},
		{head.Limits{Line: 9000, Fields: -3, Body: 7}, 8192*3 + 7 + 1024},
	} {
		p := New(k.l)
		if p.Room() != k.want || p.Held() != 0 || p.Status() != 0 {
			t.Errorf("New(%+v) has room for %d, not %d; %d held, %d", k.l, p.Room(), k.want, p.Held(), p.Status())
		}
		if n := p.Feed(strings.Repeat("x", k.want+1)); n != k.want || p.Held() != k.want || p.Room() != k.want {
			t.Errorf("New(%+v) takes %d, %d held, not %d", k.l, n, p.Held(), k.want)
		}
	}
}

// P12.2: Feed of just the room, of more, and into what is left of it.
func TestFeedAtRoom(t *testing.T) {
	room := New(small).Room()
	for _, k := range []struct{ first, second, want int }{
		{0, room, room}, {0, room + 1, room}, {0, 3 * room, room},
		{room, 0, 0}, {room, 1, 0}, {room, room, 0},
		{1, room - 1, room - 1}, {1, room, room - 1}, {1, room + 1, room - 1},
		{room - 1, 1, 1}, {room - 1, 2, 1}, {room - 1, room, 1}, {room - 1, 0, 0},
	} {
		p := New(small)
		if n := p.Feed(strings.Repeat("x", k.first)); n != k.first {
			t.Errorf("%+v: first %d", k, n)
		}
		if n := p.Feed(strings.Repeat("y", k.second)); n != k.want || p.Held() != k.first+k.want || p.Status() != 0 {
			t.Errorf("%+v: then %d, %d held, %d", k, n, p.Held(), p.Status())
		}
	}
}

// P12.2: what found no room is not held, and may come again, when requests
// have gone.
func TestFeedWhereRoomIsLeft(t *testing.T) {
	s := strings.Repeat(sized+chunked+hosted+bare, 40)
	want := slices.Repeat([]Request{sizedIs, chunkedIs, hostedIs, bareIs}, 40)
	for _, most := range []int{1, 7, 1000, len(s)} {
		p := New(small)
		var got []Request
		for at := 0; at < len(s); {
			left := p.Room() - p.Held()
			part := s[at:min(at+most, len(s))]
			n := p.Feed(part)
			if n != min(len(part), left) || p.Held() > p.Room() {
				t.Fatalf("Feed of %d bytes, room for %d: %d", len(part), left, n)
			}
			at += n
			// One request at a time, so that there is little room.
			if r, ok := p.Next(); ok {
				got = append(got, r)
			}
		}
		for r, ok := p.Next(); ok; r, ok = p.Next() {
			got = append(got, r)
		}
		if !sameRequests(got, want) || p.Held() != 0 || p.Status() != 0 {
			t.Errorf("by %d bytes: %d requests, %d held, %d", most, len(got), p.Held(), p.Status())
		}
	}
}

// Words: each request that limits allow finds room, if its body comes by its
// size.
func TestGreatestRequestFindsRoom(t *testing.T) {
	for _, l := range []head.Limits{{}, small, wide} {
		l = head.Right(l)
		length := "Content-Length:" + strconv.Itoa(l.Body)
		if len(length) > l.Line {
			length = "a:b"
		}
		s := "PUT /" + strings.Repeat("x", l.Line-len("PUT / HTTP/1.0")) + " HTTP/1.0\r\n" + length + "\r\n"
		s += strings.Repeat("a:"+strings.Repeat("b", l.Line-2)+"\r\n", l.Fields-1) + "\r\n"
		if length != "a:b" {
			s += strings.Repeat("z", l.Body)
		}
		p := New(l)
		if n := p.Feed(s); n != len(s) {
			t.Errorf("%+v: %d of %d bytes", l, n, len(s))
		}
		if r, ok := p.Next(); !ok || len(r.Head.Fields) != l.Fields || p.Held() != 0 {
			t.Errorf("%+v: %v, %d fields, %d held, %d", l, ok, len(r.Head.Fields), p.Held(), p.Status())
		}
	}
}

// P1, P12: a nil parser at each call.
func TestNilParser(t *testing.T) {
	var p *Parser
	for range 2 {
		if n := p.Feed(bare); n != 0 {
			t.Error("Feed", n)
		}
		if r, ok := p.Next(); ok || !zeroRequest(r) {
			t.Error("Next", r, ok)
		}
		if p.Status() != 0 || p.Held() != 0 || p.Room() != 0 {
			t.Error(p.Status(), p.Held(), p.Room())
		}
	}
}

// P1: a parser made by hand is one of the least limits.
func TestParserByHand(t *testing.T) {
	var p Parser
	if p.Room() != 16*3+1024 || p.Held() != 0 || p.Status() != 0 {
		t.Error(p.Room(), p.Held(), p.Status())
	}
	if _, ok := p.Next(); ok || p.Feed(bare+lines("GET / HTTP/1.0", "a:b", "")) != len(bare)+len("GET / HTTP/1.0\r\na:b\r\n\r\n") {
		t.Error(p.Held())
	}
	if r, ok := p.Next(); !ok || !sameRequest(r, bareIs) {
		t.Error(r, ok)
	}
	if r, ok := p.Next(); !ok || len(r.Head.Fields) != 1 || p.Held() != 0 {
		t.Error(r, ok, p.Held())
	}
	p.Feed("GET /234 HTTP/1.0\r\n")
	if _, ok := p.Next(); ok || p.Status() != 414 {
		t.Error(ok, p.Status())
	}
}

// Rule 6: what one parser is given, another one knows nothing of.
func TestParsersAreApart(t *testing.T) {
	p, q := New(small), New(small)
	p.Feed(sized[:20])
	q.Feed(bare + "x\r\n")
	p.Feed(sized[20:] + chunked[:5])
	if r, ok := q.Next(); !ok || !sameRequest(r, bareIs) {
		t.Error(r, ok)
	}
	if _, ok := q.Next(); ok || q.Status() != 400 || p.Status() != 0 {
		t.Error(ok, q.Status(), p.Status())
	}
	if r, ok := p.Next(); !ok || !sameRequest(r, sizedIs) || p.Held() != 5 || q.Held() != 3 {
		t.Error(r, ok, p.Held(), q.Held())
	}
}

// Rule 4: no answer is seen in another one.
func TestAnswersShareNothing(t *testing.T) {
	s := hosted + sized + hosted
	first, _, _ := All(s, small)
	for i := range first {
		first[i].Head.Fields[0] = head.Field{Name: "spoilt"}
		_ = append(first[i].Head.Fields[:1], head.Field{Name: "spoilt"})
		if i+1 < len(first) && first[i+1].Head.Fields[0].Name != "Host" {
			t.Errorf("request %d is spoilt", i+1)
		}
	}
	_ = append(first[:1], Request{})
	expectAll(t, s, small, len(s), head.More, hostedIs, sizedIs, hostedIs)
	p := New(small)
	p.Feed(s)
	for i, want := range []Request{hostedIs, sizedIs, hostedIs} {
		r, ok := p.Next()
		if !ok || !sameRequest(r, want) {
			t.Errorf("request %d is %+v, %v", i, r, ok)
		}
		r.Head.Fields[0] = head.Field{Name: "spoilt"}
		_ = append(r.Head.Fields, head.Field{Name: "spoilt"})
	}
}

// byChance: requests, nearly, one behind the other.
func byChance(r *rand.Rand) string {
	pieces := []string{
		bare, hosted, sized, chunked, bare, hosted, sized, chunked, sized + chunked,
		inChunks(""), inChunks("0\r\n"), "0\r\n\r\n", "3\r\nabc\r\n", "\r\n", "x", "\r", "GET / HTTP/1.0\r\n", "GET / HTTP/1.0\r\n", "a:b\r\n",
		"a:b\r\nc:d\r\ne:f\r\ng:h\r\n", strings.Repeat("y", 50), "Content-Length: 3\r\n\r\nabc", "Content-Length: 9\r\n\r\n", "HEAD / HTTP/1.1\r\n",
	}
	var b strings.Builder
	for range r.Intn(7) {
		b.WriteString(pieces[r.Intn(len(pieces))])
	}
	s := b.String()
	return s[:len(s)-r.Intn(min(len(s), 5)+1)*r.Intn(2)]
}

// cuts: s in parts by chance, empty ones too.
func cuts(r *rand.Rand, s string) []string {
	var parts []string
	for s != "" {
		n := r.Intn(min(len(s), 1+r.Intn(60)) + 1)
		parts = append(parts, s[:n])
		s = s[n:]
	}
	return parts
}

// byWords: the request at the beginning of s, as the chapter says it of what
// head's and chunk's calls answer.
func byWords(s string, l head.Limits) (Request, int, int) {
	h, at, status := head.Parse(s, l)
	if status != 0 {
		return Request{}, 0, status
	}
	kind, n, status := head.Body(h, l)
	switch {
	case status != 0:
		return Request{}, 0, status
	case kind == head.Chunked:
		body, n, status := chunk.Parse(s[at:], l)
		return Request{h, body}, at + n, status
	case len(s) < at+n:
		return Request{}, 0, head.More
	}
	return Request{h, s[at : at+n]}, at + n, 0
}

// P12.1 and P12.3: All by chance; a parser takes the same, in whatever parts
// it comes.
func TestByChance(t *testing.T) {
	r := rand.New(rand.NewSource(123))
	seen := map[int]int{}
	for range 20000 {
		s := byChance(r)
		l := head.Limits{Line: 30 + r.Intn(12), Fields: 2 + r.Intn(2), Body: r.Intn(8)}
		var want []Request
		x, n, status := byWords(s, l)
		at := 0
		for status == 0 {
			want = append(want, x)
			at += n
			x, n, status = byWords(s[at:], l)
		}
		expectAll(t, s, l, at, status, want...)
		seen[status]++
		if status == head.More {
			status = 0
		}
		expectParts(t, l, want, status, cuts(r, s)...)
	}
	for _, status := range []int{head.More, 400, 413, 414, 431, 501} {
		if seen[status] < 100 {
			t.Errorf("%d was told %d times only", status, seen[status])
		}
	}
}

// P1: many requests end soon.
func TestManyRequests(t *testing.T) {
	const many = 1 << 16
	l, n, status := All(strings.Repeat(bare, many), wide)
	if len(l) != many || n != many*len(bare) || status != head.More {
		t.Error(len(l), n, status)
	}
	p := New(wide)
	fed := p.Feed(strings.Repeat(bare, many))
	got := 0
	for _, ok := p.Next(); ok; _, ok = p.Next() {
		got++
	}
	if fed != many*len(bare) || got != many || p.Held() != 0 {
		t.Error(fed, got, p.Held())
	}
}

// P1: no call panics, whatever the bytes and the limits; P12.3.
func FuzzParser(f *testing.F) {
	f.Add(bare+sized, chunked, 40, 3, 6)
	f.Add(inChunks("3\r\nab"), "c\r\n0\r\n\r\n", 0, 5, 5)
	f.Add("", "GET", -1, -1, -1)
	f.Add("GET / HTTP/1.1\n", "\r\n", math.MaxInt, math.MinInt, math.MaxInt)
	f.Fuzz(func(t *testing.T, a, b string, line, fields, body int) {
		l := head.Limits{Line: line, Fields: fields, Body: body}
		if len(a+b) > New(l).Room() {
			return
		}
		want, n, status := All(a+b, l)
		if n < 0 || n > len(a+b) || status == 0 {
			t.Errorf("All(%q, %+v) is %d, %d", a+b, l, n, status)
		}
		if status == head.More {
			status = 0
		}
		expectParts(t, l, want, status, a, b)
	})
}
