package route

import (
	"fmt"
	"math/rand"
	"slices"
	"strings"
	"testing"

	"larum/api"
	"larum/core"
	"larum/head"
	"larum/reply"
	"larum/shape"
	"larum/wire"
)

// limits are those of the greatest requests.
var limits = head.Limits{Line: 8192, Fields: 100, Body: 1 << 20}

// come: the requests whose bytes s is.
func come(t *testing.T, s string) []wire.Request {
	t.Helper()
	l, size, _ := wire.All(s, limits)
	if size != len(s) {
		t.Fatalf("%q has %d requests, and more behind them", s, len(l))
	}
	return l
}

// bytesOf: a request's bytes.
func bytesOf(method, target, body string, lines ...string) string {
	lines = append([]string{method + " " + target + " HTTP/1.1", "Host: x", fmt.Sprintf("Content-Length: %d", len(body))}, lines...)
	return strings.Join(lines, "\r\n") + "\r\n\r\n" + body
}

// machine is one of which all is asked by requests.
type machine struct {
	*core.Machine
	stay int64
}

func newMachine(c core.Config) machine { return machine{core.New(c, 0), core.Right(c).Stay} }

// serve: what is told of a request.
func (m machine) serve(r wire.Request) (Ask, core.Reply, reply.Reply) {
	a, no := Of(r, m.Now(), m.stay)
	if no != 0 {
		return a, core.Reply{}, Refused(no)
	}
	x := m.Do(a.Op)
	return a, x, Reply(a, x)
}

// expectServed: of a request's bytes this status is told, and a body that has
// all of parts; its mark.
func (m machine) expectServed(t *testing.T, s string, status int, parts ...string) string {
	t.Helper()
	_, _, got := m.serve(come(t, s)[0])
	lacks := func(part string) bool { return !strings.Contains(got.Body, part) }
	if got.Status != status || slices.ContainsFunc(parts, lacks) {
		t.Errorf("of %.200q is told %+v, not %d with %q", s, got, status, parts)
	}
	for _, f := range got.Fields {
		if f.Name == "ETag" {
			return f.Value
		}
	}
	return ""
}

// P29.1, P29.2: a silence is created, read, changed by its mark, and ended.
func TestSilenceServed(t *testing.T) {
	m := newMachine(core.Config{Keys: 10})
	mark := m.expectServed(t, bytesOf("POST", "/silences", silenceBody), 201, `"id":1`, `"state":"active"`)
	if mark != `"v1"` {
		t.Errorf("its mark is %s", mark)
	}
	if got := m.expectServed(t, bytesOf("GET", "/silences/1", ""), 200, `"id":1`); got != mark {
		t.Errorf("its mark is %s, not %s", got, mark)
	}
	m.expectServed(t, bytesOf("PUT", "/silences/1", silenceBody), 428, `{"error":"form"}`)
	next := m.expectServed(t, bytesOf("PUT", "/silences/1", silenceBody, "If-Match: "+mark), 200, `"id":1`)
	if next != `"v2"` {
		t.Errorf("its mark is %s", next)
	}
	m.expectServed(t, bytesOf("PUT", "/silences/1", silenceBody, "If-Match: "+mark), 412, `{"error":"stale"}`)
	m.expectServed(t, bytesOf("DELETE", "/silences/1", "", "If-Match: "+mark), 412, `{"error":"stale"}`)
	if got := m.expectServed(t, bytesOf("DELETE", "/silences/1", "", "If-Match: "+mark+", "+next), 204); got != "" {
		t.Errorf("it has the mark %s", got)
	}
	m.expectServed(t, bytesOf("DELETE", "/silences/1", "", "If-Match: *"), 410, `{"error":"state"}`)
	m.expectServed(t, bytesOf("GET", "/silences/1", ""), 200, `"state":"expired"`)
	m.expectServed(t, bytesOf("GET", "/silences/2", ""), 404, `{"error":"none"}`)
}

// P29.1, P29.2: pages, changes and the outbox; no more room.
func TestAlertsServed(t *testing.T) {
	m := newMachine(core.Config{Keys: 2, Log: 1, Pins: 1, Out: 10, Stay: 10, Hold: 5, By: []string{"a"}})
	m.expectServed(t, bytesOf("POST", "/alerts", `[{"labels":{"a":"1"}},{"labels":{"a":"2"}}]`), 200, `{"rev":1}`)
	m.expectServed(t, bytesOf("POST", "/alerts", `[{"labels":{"a":"3"}}]`), 507, `{"error":"full"}`)
	m.expectServed(t, bytesOf("POST", "/alerts", "[]"), 400, `{"error":"argument"}`)
	m.expectServed(t, bytesOf("GET", "/groups?by=a&n=1", ""), 200, `"key":{"a":"1"}`, `"next":"p1.1"`, `"rev":1`)
	m.expectServed(t, bytesOf("GET", "/groups?by=a&n=1", ""), 503, `{"error":"full"}`)
	m.expectServed(t, bytesOf("GET", "/groups?by=a&n=1&cursor=p1.1", ""), 200, `"key":{"a":"2"}`, `"rev":1`)
	m.expectServed(t, bytesOf("GET", "/groups?by=a&n=1&cursor=p1.1", ""), 410, `{"error":"gone"}`)
	m.expectServed(t, bytesOf("GET", "/watch?rev=1", ""), 400, `{"error":"more"}`)
	m.expectServed(t, bytesOf("GET", "/watch?rev=0", ""), 410, `{"error":"gone"}`)
	m.expectServed(t, bytesOf("POST", "/alerts", `[{"labels":{"a":"1"}}]`), 200, `{"rev":2}`)
	m.expectServed(t, bytesOf("GET", "/watch?rev=1&filter=%7Ba%3D%221%22%7D", ""), 200, `"rev":2`, `"key":"a/{a=\"1\"}"`)
	m.expectServed(t, bytesOf("GET", "/watch?rev=1&filter=%7Ba%3D%222%22%7D", ""), 400, `{"error":"more"}`)
	m.expectServed(t, bytesOf("GET", "/outbox", ""), 200, `"rev":2`, `"seq":1`, `"seq":2`)
	m.expectServed(t, bytesOf("GET", "/outbox?rev=3", ""), 400, `{"error":"argument"}`)
}

// bytesByChance: those of a request, of things that may be there.
func bytesByChance(r *rand.Rand) string {
	alerts := fmt.Sprintf(`[{"labels":{"a":"%d","b":"%d"}}]`, r.Intn(3), r.Intn(3))
	id, mark := fmt.Sprintf("/silences/%d", r.Intn(4)), fmt.Sprintf(`If-Match: "v%d"`, r.Intn(30))
	body := fmt.Sprintf(`{"matchers":"{a=\"%d\"}","endsAt":"1970-01-01T00:00:%02dZ"}`, r.Intn(3), r.Intn(60))
	return pick(r,
		bytesOf("POST", "/alerts", pick(r, alerts, alerts, "[]", "x")),
		bytesOf("POST", "/silences", pick(r, body, body, "x")),
		bytesOf("GET", id, ""),
		bytesOf("PUT", id, body, pick(r, mark, "If-Match: *", "X: y")),
		bytesOf("DELETE", id, "", pick(r, mark, "If-Match: *", "X: y")),
		bytesOf("GET", pick(r, "/groups?n=1", "/groups?by=a&n=1", "/groups?cursor=p1.1", "/groups?cursor=p2.1"), ""),
		bytesOf("GET", fmt.Sprintf("/watch?rev=%d&wait=9", r.Intn(30)), ""),
		bytesOf("GET", fmt.Sprintf("/outbox?rev=%d", r.Intn(9)), ""),
		bytesOf("GET", pick(r, "/nothing", "/alerts", "/%"), ""),
	)
}

// P29.1, P29.2, P28.4: what a machine tells of requests by chance goes as bytes
// that are read again, with all that is told of it.
func TestServedByChance(t *testing.T) {
	r := rand.New(rand.NewSource(294))
	seen := map[int]int{}
	for range 200 {
		m := newMachine(core.Config{Keys: 6, Log: 8, Pins: 1, Out: 5, Stay: 20, Hold: 9, By: []string{"a"}})
		for range 60 {
			if r.Intn(5) == 0 {
				m.Do(core.Op{Kind: core.Tick, T: 1 + r.Int63n(6)})
				continue
			}
			s := bytesByChance(r)
			a, x, got := m.serve(come(t, s)[0])
			out, e := reply.Encode(got)
			back, size, no := reply.Parse(out + s)
			if e != api.OK || no != api.OK || size != len(out) || back.Status != got.Status || back.Body != got.Body {
				t.Fatalf("of %q is told %+v, which is %q, %d, read as %+v, %d", s, got, out, e, back, no)
			}
			if a.Op.Kind != 0 && x.Code == api.OK && got.Status != 204 {
				if y, e := shape.Read(a.Op.Kind, got.Body); e != api.OK || shape.Body(a.Op.Kind, y) != shape.Body(a.Op.Kind, x) {
					t.Fatalf("of %q is told %s, which is read as %+v, %d", s, got.Body, y, e)
				}
			}
			seen[got.Status]++
		}
	}
	for _, status := range []int{200, 201, 204, 400, 404, 405, 410, 412, 428, 503, 507} {
		if seen[status] < 10 {
			t.Errorf("%d was told %d times", status, seen[status])
		}
	}
}
