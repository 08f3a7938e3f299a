package route

import (
	"math"
	"math/rand"
	"net/url"
	"slices"
	"strings"
	"testing"

	"larum/api"
	"larum/clog"
	"larum/core"
	"larum/etag"
	"larum/head"
	"larum/mv"
	"larum/note"
	"larum/page"
	"larum/pct"
	"larum/reply"
	"larum/shape"
	"larum/silence"
	"larum/wire"
)

// there has what there is, by the chapter's words: a path, where ID stands for
// one, a method, which pairs may stand in the query.
var there = []struct {
	path, method string
	may          []string
}{
	{"alerts", "POST", nil}, {"silences", "POST", nil}, {"silences/ID", "GET", nil}, {"silences/ID", "PUT", nil}, {"silences/ID", "DELETE", nil},
	{"groups", "GET", []string{"filter", "by", "n", "cursor"}}, {"watch", "GET", []string{"filter", "rev", "wait"}}, {"outbox", "GET", []string{"rev"}},
}

// idBy: the ID that a part is, by the chapter's words; 0, if it is none.
func idBy(s string) int64 {
	const most = "9223372036854775807"
	if s == "" || s[0] == '0' || strings.Trim(s, "0123456789") != "" || len(s) > len(most) || len(s) == len(most) && s > most {
		return 0
	}
	n := int64(0)
	for _, c := range s {
		n = 10*n + int64(c-'0')
	}
	return n
}

// kindBy: by the chapter's words.
func kindBy(method string, l []string) (int, int64, int) {
	l, id := slices.Clone(l), int64(0)
	if len(l) == 2 && l[0] == "silences" {
		if id = idBy(l[1]); id > 0 {
			l[1] = "ID"
		} else {
			l[1] = ""
		}
	}
	status := 404
	for i, x := range there {
		if !slices.Equal(l, strings.Split(x.path, "/")) {
			continue
		}
		if method == x.method {
			return i + 1, id, 0
		}
		status = 405
	}
	return 0, 0, status
}

// split: a target's parts and pairs, by what Go's library says of signs.
func split(target string) ([]string, []pct.Pair, bool) {
	path, query, _ := strings.Cut(target, "?")
	if !strings.HasPrefix(path, "/") {
		return nil, nil, false
	}
	parts := strings.Split(path[1:], "/")
	for i, s := range parts {
		x, err := url.PathUnescape(s)
		if err != nil {
			return nil, nil, false
		}
		parts[i] = x
	}
	var pairs []pct.Pair
	for _, s := range strings.Split(query, "&") {
		if s == "" {
			continue
		}
		name, value, _ := strings.Cut(s, "=")
		n, err := url.QueryUnescape(name)
		v, wrong := url.QueryUnescape(value)
		if err != nil || wrong != nil {
			return nil, nil, false
		}
		pairs = append(pairs, pct.Pair{Name: n, Value: v})
	}
	return parts, pairs, true
}

// askedBy: what a request asks, by the chapter's words.
func askedBy(r wire.Request, now, stay int64) (Ask, int) {
	parts, pairs, ok := split(r.Head.Target)
	if !ok {
		return Ask{}, 400
	}
	kind, id, no := kindBy(r.Head.Method, parts)
	if no != 0 {
		return Ask{}, no
	}
	q, e := page.Parse(pairs, there[kind-1].may...)
	if e != api.OK || kind != 1 && kind != 2 && kind != 4 && r.Body != "" {
		return Ask{}, 400
	}
	a := Ask{core.Op{Kind: kind, ID: id, Filter: q.Filter, By: q.By, N: q.N, Cursor: q.Cursor, Rev: q.Rev}, q.Wait}
	if kind == 4 || kind == 5 {
		var marks []string
		for _, f := range r.Head.Fields {
			if strings.EqualFold(f.Name, "if-match") {
				marks = append(marks, f.Value)
			}
		}
		if len(marks) == 0 {
			return Ask{}, 428
		}
		if a.Op.Have, e = etag.Parse(marks[0]); e != api.OK || len(marks) > 1 {
			return Ask{}, 400
		}
	}
	if kind == 1 {
		a.Op.Alerts, e = shape.Alerts(r.Body, now, stay)
	} else if kind == 2 || kind == 4 {
		a.Op.Silence, e = shape.Silence(r.Body, now)
	}
	if e != api.OK {
		return Ask{}, 400
	}
	return a, 0
}

// pick: one of some, by chance.
func pick[T any](r *rand.Rand, l ...T) T { return l[r.Intn(len(l))] }

// partsByChance: those of a target, or near to one's.
func partsByChance(r *rand.Rand) []string {
	l := []string{pick(r, "alerts", "silences", "silences", "silences", "groups", "watch", "outbox", "Alerts", "", "nothing")}
	if r.Intn(2) == 0 {
		l = append(l, pick(r, "1", "3", "12", "9223372036854775807", "9223372036854775808", "0", "03", "-3", "+3", "", "x", "3x"))
	}
	if r.Intn(12) == 0 {
		l = append(l, pick(r, "", "3", "x"))
	}
	return l
}

// P29.1: parts and methods by chance, against the chapter's words.
func TestKindByChance(t *testing.T) {
	r := rand.New(rand.NewSource(291))
	seen := map[int]int{}
	for range 100000 {
		l, method := partsByChance(r), pick(r, methods[:7]...)
		kind, id, no := kindBy(method, l)
		expectKind(t, method, l, kind, id, no)
		if seen[no]++; t.Failed() {
			t.FailNow()
		}
	}
	if seen[0] < 3000 || seen[404] < 3000 || seen[405] < 3000 {
		t.Errorf("seen: %v", seen)
	}
}

// changed: a request of which something may be another thing.
func changed(r *rand.Rand, x wire.Request) wire.Request {
	x.Head.Fields = slices.Clone(x.Head.Fields)
	if r.Intn(8) == 0 {
		x.Head.Method = pick(r, methods...)
	}
	switch r.Intn(12) {
	case 0:
		x.Head.Target = "/" + strings.Join(partsByChance(r), "/")
	case 1:
		x.Head.Target += pick(r, "/", "%", "%7", "x", "%33", "3", "?%")
	case 2:
		x.Head.Target = pick(r, "", "x", "%2F") + x.Head.Target[r.Intn(2):]
	}
	if r.Intn(3) == 0 {
		x.Head.Target += "?"
		for range 1 + r.Intn(3) {
			x.Head.Target += pick(r, "filter=%7Ba%3D%221%22%7D", "filter=%7B%7D", "filter=x", "by=a", "by=a,b", "by=", "by=9", "n=7", "n=0", "cursor=p3.20", "cursor=p0.1", "rev=4", "r%65v=0", "rev=-1", "wait=9", "wait=x", "x=1", "", "n=+7", "%zz") + pick(r, "&", "&", "&", "?")
		}
	}
	if r.Intn(4) == 0 {
		x.Body = pick(r, "", alertsBody, silenceBody, "[]", pick(r, wrongBodies...))
	}
	if r.Intn(4) == 0 {
		x.Head.Fields = nil
		for range r.Intn(4) {
			x.Head.Fields = append(x.Head.Fields, head.Field{Name: pick(r, "If-Match", "if-match", "Host"), Value: pick(r, `"v3"`, "*", `"v3","v4"`, `W/"v3"`, "x", "")})
		}
	}
	return x
}

// P29.1: requests by chance, against the chapter's words.
func TestOfByChance(t *testing.T) {
	r := rand.New(rand.NewSource(292))
	seen, kinds := map[int]int{}, map[int]int{}
	for range 200000 {
		x := changed(r, pick(r, right...))
		now, stay := pick(r, int64(5), 0, 9, 10, -1, api.MaxTime), pick(r, int64(10), 1, 0)
		want, no := askedBy(x, now, stay)
		got, status := Of(x, now, stay)
		if status != no || text(got) != text(want) {
			t.Fatalf("Of(%s, %d, %d) is %s, %d, not %s, %d", told(x), now, stay, text(got), status, text(want), no)
		}
		seen[status]++
		kinds[got.Op.Kind]++
	}
	for _, status := range []int{0, 400, 404, 405, 428} {
		if seen[status] < 1000 {
			t.Errorf("%d was seen %d times", status, seen[status])
		}
	}
	for kind := range 9 {
		if kinds[kind] < 1000 {
			t.Errorf("kind %d was asked %d times", kind, kinds[kind])
		}
	}
}

// P29.2: replies by chance: they can be written, and their bodies are those of
// layer 28.
func TestReplyByChance(t *testing.T) {
	r := rand.New(rand.NewSource(293))
	for range 20000 {
		a := Ask{Op: core.Op{Kind: pick(r, allKinds...), ID: r.Int63(), N: r.Intn(9)}, Wait: r.Int63()}
		x := core.Reply{Rev: r.Int63n(100), Tag: etag.Of(r.Int63n(100))}
		if r.Intn(2) == 0 {
			x = full()
		}
		if r.Intn(2) == 0 {
			x.Code = pick(r, allErrors...)
		}
		for range r.Intn(3) {
			x.Entries = append(x.Entries, clog.Entry{Rev: r.Int63n(9), Change: mv.Change{Key: pick(r, "", "k", "é"), Gone: r.Intn(2) == 0, Val: "1"}})
			x.Notes = append(x.Notes, note.Entry{Seq: r.Int63n(9), Group: pick(r, "", "{}"), Firing: r.Intn(2) == 0})
		}
		x.Silence.Note = pick(r, "", "n", "é")
		var fields []head.Field
		body := shape.Error(x.Code)
		if x.Code == api.OK {
			if body = shape.Body(a.Op.Kind, x); a.Op.Kind == 5 {
				body = ""
			}
			if a.Op.Kind > 1 && a.Op.Kind < 5 {
				mark, _ := etag.Print(x.Tag)
				fields = append(fields, markField(mark))
			}
		}
		got := Reply(a, x)
		expectReply(t, "Reply", got, statusBy(a.Op.Kind, x.Code), body, append(fields, jsonField)...)
		s, e := reply.Encode(got)
		if back, size, no := reply.Parse(s); e != api.OK || no != api.OK || size != len(s) || back.Body != body {
			t.Errorf("%q is read as %+v, %d", s, back, no)
		}
		if t.Failed() {
			t.FailNow()
		}
	}
}

// P1: no call panics, whatever it is given.
func FuzzOf(f *testing.F) {
	for _, r := range right {
		name, value := "", ""
		if len(r.Head.Fields) > 0 {
			name, value = r.Head.Fields[0].Name, r.Head.Fields[0].Value
		}
		f.Add(r.Head.Method, r.Head.Target, name, value, r.Body, int64(5), int64(10))
	}
	f.Add("", "", "", "", "", int64(math.MinInt64), int64(math.MaxInt64))
	f.Add("GET", "/groups?filter=%7Ba%3D~%22(%22%7D&by=,&n=0", "\xFF", "\xFF", "\xFF", int64(math.MaxInt64), int64(math.MinInt64))
	f.Fuzz(func(t *testing.T, method, target, name, value, body string, now, stay int64) {
		r := request(method, target, body, name, value, value, name)
		want, no := askedBy(r, now, stay)
		if got, status := Of(r, now, stay); status != no || text(got) != text(want) {
			t.Errorf("Of(%s, %d, %d) is %s, %d, not %s, %d", told(r), now, stay, text(got), status, text(want), no)
		}
		for _, l := range [][]string{{target}, {name, value}, {"silences", value}, strings.Split(target, "/")} {
			kind, id, no := kindBy(method, l)
			expectKind(t, method, l, kind, id, no)
		}
	})
}

func FuzzReply(f *testing.F) {
	f.Add(1, 0, "v1", "n", `{"a":1}`, int64(1), 2)
	f.Add(-1, -1, "\"", "\xFF", "x", int64(math.MinInt64), math.MinInt)
	f.Add(6, 7, "", "", "", int64(math.MaxInt64), math.MaxInt)
	f.Fuzz(func(t *testing.T, kind, code int, mark, s, val string, n int64, at int) {
		r := full()
		r.Code, r.Rev, r.Tag = api.Errno(code), n, etag.Tag{Weak: at > 0, Text: mark}
		r.Silence = silence.Silence{ID: n, Match: s, Starts: n, Ends: -n, By: val, Note: s, State: mark}
		r.Next = core.Cursor{Pin: n, At: at}
		r.Entries[0].Change.Val, r.Notes[0].Group = val, s
		for k := -1; k < 12; k++ {
			got := Reply(Ask{Op: core.Op{Kind: k}}, r)
			if got.Status != statusBy(k, r.Code) || got.Fields[len(got.Fields)-1] != jsonField {
				t.Errorf("of kind %d it is %+v", k, got)
			}
			if _, e := reply.Encode(got); e != api.OK {
				t.Errorf("%+v can't be written", got)
			}
		}
		if got := Reply(Ask{Op: core.Op{Kind: kind}}, r).Status; got != Status(kind, r.Code) {
			t.Errorf("of kind %d it is %d", kind, got)
		}
		expectReply(t, "Refused", Refused(at), at, reply.Of(at, `{"error":"form"}`).Body, jsonField)
	})
}
