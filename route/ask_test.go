package route

import (
	"fmt"
	"math"
	"slices"
	"strings"
	"testing"

	"larum/alert"
	"larum/api"
	"larum/core"
	"larum/etag"
	"larum/head"
	"larum/label"
	"larum/match"
	"larum/pct"
	"larum/silence"
	"larum/wire"
)

// request: one by hand, with fields of names and values, one behind the other.
func request(method, target, body string, fields ...string) wire.Request {
	h := head.Head{Method: method, Target: target, Minor: 1}
	for i := 0; i+1 < len(fields); i += 2 {
		h.Fields = append(h.Fields, head.Field{Name: fields[i], Value: fields[i+1]})
	}
	return wire.Request{Head: h, Body: body}
}

// withQuery: a target of a path and of names and values, one behind the other.
func withQuery(path string, l ...string) string {
	var pairs []pct.Pair
	for i := 0; i+1 < len(l); i += 2 {
		pairs = append(pairs, pct.Pair{Name: l[i], Value: l[i+1]})
	}
	return path + pct.Target(nil, pairs...)[1:]
}

// told: a request in a line.
func told(r wire.Request) string {
	return fmt.Sprintf("%q %.100q %q %.100q", r.Head.Method, r.Head.Target, r.Head.Fields, r.Body)
}

// text: all that is asked; lists that are nil or empty are the same.
func text(a Ask) string { return fmt.Sprintf("%t %+v", a.Op.Filter == nil, a) }

func expectAskAt(t *testing.T, r wire.Request, now, stay int64, want Ask) {
	t.Helper()
	if got, no := Of(r, now, stay); no != 0 || text(got) != text(want) {
		t.Errorf("Of(%s, %d, %d) is %s, %d, not %s", told(r), now, stay, text(got), no, text(want))
	}
}

func expectAsk(t *testing.T, r wire.Request, want Ask) {
	t.Helper()
	expectAskAt(t, r, 5, 10, want)
}

func expectStatus(t *testing.T, r wire.Request, want int) {
	t.Helper()
	if got, no := Of(r, 5, 10); no != want || text(got) != text(Ask{}) {
		t.Errorf("Of(%s) is %s, %d, not %d alone", told(r), text(got), no, want)
	}
}

// ask: what is asked, where the query says how many groups a page has, if
// nobody else does (27).
func ask(o core.Op) Ask {
	if o.N == 0 {
		o.N = 100
	}
	return Ask{Op: o}
}

func set(name, value string) label.Set {
	s, e := label.Of(label.Pair{Name: name, Value: value})
	if e != api.OK {
		panic(name)
	}
	return s
}

func list(s string) *match.List {
	l, e := match.Parse(s)
	if e != api.OK {
		panic(s)
	}
	return l
}

const (
	alertsBody  = `[{"labels":{"a":"1"}}]`
	silenceBody = `{"matchers":"{a=\"1\"}","endsAt":"1970-01-01T00:00:09Z"}`
)

// theSilence is what silenceBody says at 5.
var theSilence = silence.Silence{Match: `{a="1"}`, Starts: 5, Ends: 9, State: silence.Active}

// tags: marks that are not weak.
func tags(l ...string) etag.List {
	var all []etag.Tag
	for _, s := range l {
		all = append(all, etag.Tag{Text: s})
	}
	return etag.List{Tags: all}
}

// right has a request of each kind that asks it, and nothing more.
var right = []wire.Request{
	request("POST", "/alerts", alertsBody),
	request("POST", "/silences", silenceBody),
	request("GET", "/silences/3", ""),
	request("PUT", "/silences/3", silenceBody, "If-Match", `"v3"`),
	request("DELETE", "/silences/3", "", "If-Match", `"v3"`),
	request("GET", "/groups", ""),
	request("GET", "/watch", ""),
	request("GET", "/outbox", ""),
}

// P29.1: what is asked of each kind, where nothing more is said.
func TestOf(t *testing.T) {
	for i, want := range []core.Op{
		{Kind: core.Post, Alerts: []alert.Alert{{Labels: set("a", "1"), Starts: 5, Ends: 15}}},
		{Kind: core.Create, Silence: theSilence},
		{Kind: core.Read, ID: 3},
		{Kind: core.Update, ID: 3, Silence: theSilence, Have: tags("v3")},
		{Kind: core.Expire, ID: 3, Have: tags("v3")},
		{Kind: core.Groups},
		{Kind: core.Watch},
		{Kind: core.Out},
	} {
		expectAsk(t, right[i], ask(want))
	}
}

// P29.1: what the query says, whole.
func TestOfQueries(t *testing.T) {
	groups := core.Op{Kind: core.Groups, Filter: list(`{a="1",b!~"x.*"}`), By: []string{"b", "a"}, N: 7, Cursor: core.Cursor{Pin: 3, At: 20}}
	expectAsk(t, request("GET", withQuery("/groups", "filter", `{a="1", b!~"x.*"}`, "by", "b,a", "n", "7", "cursor", "p3.20"), ""), ask(groups))
	expectAsk(t, request("GET", withQuery("/groups", "cursor", "p3.20", "n", "007", "by", "b,a", "filter", `{a="1",b!~"x.*",}`), ""), ask(groups))
	expectAsk(t, request("GET", "/groups?by=a&n=3", ""), ask(core.Op{Kind: core.Groups, By: []string{"a"}, N: 3}))
	expectAsk(t, request("GET", "/groups?&n=1000&&", ""), ask(core.Op{Kind: core.Groups, N: 1000}))
	expectAsk(t, request("GET", "/groups?filter=%7B%7D&by=", ""), ask(core.Op{Kind: core.Groups, Filter: list("{}")}))
	expectAsk(t, request("GET", "/groups?cursor=p1.0", ""), ask(core.Op{Kind: core.Groups, Cursor: core.Cursor{Pin: 1}}))
	watch := ask(core.Op{Kind: core.Watch, Filter: list(`{a="1"}`), Rev: 4})
	watch.Wait = 9
	expectAsk(t, request("GET", withQuery("/watch", "filter", `{ a = "1" }`, "rev", "4", "wait", "9"), ""), watch)
	expectAsk(t, request("GET", "/watch?rev=4&wait=9", ""), Ask{Op: core.Op{Kind: core.Watch, Rev: 4, N: 100}, Wait: 9})
	expectAsk(t, request("GET", "/watch?wait=2147483647&rev=9223372036854775807", ""), Ask{Op: core.Op{Kind: core.Watch, Rev: math.MaxInt64, N: 100}, Wait: math.MaxInt32})
	expectAsk(t, request("GET", "/watch?rev=0&wait=0", ""), ask(core.Op{Kind: core.Watch}))
	expectAsk(t, request("GET", "/outbox?rev=12", ""), ask(core.Op{Kind: core.Out, Rev: 12}))
	for _, r := range right {
		// A query of no pairs.
		want, _ := Of(r, 5, 10)
		r.Head.Target += "?&"
		expectAsk(t, r, want)
	}
}

// P29.1: targets that are written otherwise.
func TestOfTargets(t *testing.T) {
	expectAsk(t, request("GET", "/%67roups", ""), ask(core.Op{Kind: core.Groups}))
	expectAsk(t, request("GET", "/%73%69lences/%31%32", ""), ask(core.Op{Kind: core.Read, ID: 12}))
	expectAsk(t, request("GET", "/silences/9223372036854775807", ""), ask(core.Op{Kind: core.Read, ID: math.MaxInt64}))
	expectAsk(t, request("GET", "/watch?%72ev=%34&w%61it=%39", ""), Ask{Op: core.Op{Kind: core.Watch, Rev: 4, N: 100}, Wait: 9})
}

// P29.1: at which time the body is said.
func TestOfTimes(t *testing.T) {
	post, create, update := right[0], right[1], right[3]
	alerts := func(starts, ends int64) Ask {
		return ask(core.Op{Kind: core.Post, Alerts: []alert.Alert{{Labels: set("a", "1"), Starts: starts, Ends: ends}}})
	}
	expectAskAt(t, post, 0, 1, alerts(0, 1))
	expectAskAt(t, post, 100, 50, alerts(100, 150))
	expectAskAt(t, post, math.MinInt64, math.MaxInt64, alerts(0, api.MaxTime))
	for now, want := range map[int64]silence.Silence{
		0:             {Match: `{a="1"}`, Ends: 9, State: silence.Active},
		8:             {Match: `{a="1"}`, Starts: 8, Ends: 9, State: silence.Active},
		9:             {Match: `{a="1"}`, Starts: 9, Ends: 9, State: silence.Expired},
		math.MinInt64: {Match: `{a="1"}`, Ends: 9, State: silence.Pending},
	} {
		expectAskAt(t, create, now, 10, ask(core.Op{Kind: core.Create, Silence: want}))
		expectAskAt(t, update, now, 10, ask(core.Op{Kind: core.Update, ID: 3, Silence: want, Have: tags("v3")}))
	}
	for _, r := range []wire.Request{post, create, update} {
		if a, no := Of(r, math.MaxInt64, math.MaxInt64); no != 400 || text(a) != text(Ask{}) {
			t.Errorf("Of(%s) behind all times is %s, %d", told(r), text(a), no)
		}
	}
	if _, no := Of(post, 5, 0); no != 400 {
		t.Errorf("alerts that don't stay are %d", no)
	}
}

// P29.1: bodies as they are said, whole.
func TestOfBodies(t *testing.T) {
	expectAsk(t, request("POST", "/alerts", " [ ] "), ask(core.Op{Kind: core.Post}))
	two := []alert.Alert{{Labels: set("a", "1"), Notes: set("n", "x"), Starts: 7, Ends: 60}, {Labels: set("b", "é"), Starts: 5, Ends: 15}}
	expectAsk(t, request("POST", "/alerts", `[{"endsAt":"1970-01-01T00:01:00Z","labels":{"a":"1"},"annotations":{"n":"x"},"startsAt":"1970-01-01T00:00:07Z"},{"labels":{"b":"é"}}]`), ask(core.Op{Kind: core.Post, Alerts: two}))
	whole := silence.Silence{Match: `{a=~"x.*"}`, Starts: 7, Ends: 9, By: "é", Note: "n", State: silence.Pending}
	const body = `{"matchers":"{ a=~\"x.*\" }","startsAt":"1970-01-01T00:00:07Z","endsAt":"1970-01-01T00:00:09Z","createdBy":"é","comment":"n"}`
	expectAsk(t, request("POST", "/silences", body), ask(core.Op{Kind: core.Create, Silence: whole}))
	expectAsk(t, request("PUT", "/silences/12", body, "If-Match", `"v7"`), ask(core.Op{Kind: core.Update, ID: 12, Silence: whole, Have: tags("v7")}))
}

// P29.1: marks, of Update and Expire alone.
func TestOfMarks(t *testing.T) {
	for value, want := range map[string]etag.List{
		`"v3"`: tags("v3"), `"v3", "v4"`: tags("v3", "v4"), `"a,b"`: tags("a,b"), `""`: tags(""), "*": {Any: true}, " * ": {Any: true},
		`W/"v3"`: {Tags: []etag.Tag{{Weak: true, Text: "v3"}}}, `,"v3",,`: tags("v3"), "\t\"v3\" ": tags("v3"),
	} {
		for _, name := range []string{"If-Match", "if-match", "IF-MATCH", "iF-mATCH"} {
			expectAsk(t, request("DELETE", "/silences/3", "", name, value), ask(core.Op{Kind: core.Expire, ID: 3, Have: want}))
			expectAsk(t, request("PUT", "/silences/3", silenceBody, "Host", "x", name, value, "If-None-Match", "x"), ask(core.Op{Kind: core.Update, ID: 3, Silence: theSilence, Have: want}))
		}
	}
	for _, i := range []int{3, 4} {
		r := right[i]
		for _, l := range [][]head.Field{nil, {}, {{Name: "If-None-Match", Value: `"v3"`}}, {{Name: "ETag", Value: `"v3"`}}, {{Name: "If-Match ", Value: `"v3"`}}, {{Name: "If_Match", Value: `"v3"`}}, {{Name: "", Value: `"v3"`}}} {
			r.Head.Fields = l
			expectStatus(t, r, 428)
		}
		mark := head.Field{Name: "If-Match", Value: `"v3"`}
		for _, l := range [][]head.Field{{mark, mark}, {mark, {Name: "if-match", Value: "*"}}, {mark, {Name: "Host", Value: "x"}, mark}, {mark, mark, mark}, {mark, {Name: "IF-MATCH", Value: "x"}}, {{Name: "If-Match"}, mark}} {
			r.Head.Fields = l
			expectStatus(t, r, 400)
		}
		for _, value := range []string{"", " ", "v3", "3", `"v3`, `v3"`, `'v3'`, ",", ",,", `"v3" "v4"`, `"v3";"v4"`, "**", "*,*", `*,"v3"`, `"v3",*`, `w/"v3"`, `W/ "v3"`, `W"v3"`, "W/", `"v 3"`, "\"\x7F\"", "\x00"} {
			r.Head.Fields = []head.Field{{Name: "If-Match", Value: value}}
			expectStatus(t, r, 400)
		}
	}
	// The others have none, whatever stands there.
	for _, i := range []int{0, 1, 2, 5, 6, 7} {
		want, _ := Of(right[i], 5, 10)
		for _, value := range []string{`"v3"`, "*", "x", ""} {
			r := right[i]
			r.Head.Fields = []head.Field{{Name: "If-Match", Value: value}, {Name: "If-Match", Value: value}}
			expectAsk(t, r, want)
		}
	}
}

// P29.1: targets that can't be split, whatever else is wrong.
func TestOfNoTarget(t *testing.T) {
	for _, target := range []string{"", "alerts", "*", "?", "http://x/alerts", "%2Falerts", " /groups", "/%", "/%4", "/%zz", "/groups/%", "/nothing/%", "/%/nothing", "/groups?%", "/groups?n=%", "/groups?x=%4", "/nothing?%zz", "/silences/3?%", "/silences/%?x", "/alerts?%=1"} {
		for _, method := range []string{"GET", "POST", "PUT", "DELETE", "PATCH", ""} {
			for _, body := range []string{"", "x", alertsBody, silenceBody} {
				expectStatus(t, request(method, target, body), 400)
			}
		}
	}
}

// P29.1: no such parts, no such method, whatever is wrong behind the target.
func TestOfNoKind(t *testing.T) {
	for _, method := range []string{"GET", "POST", "PUT", "DELETE", "PATCH", ""} {
		for _, target := range []string{"/", "//", "/nothing", "/alerts/", "/alerts/1", "/silences/", "/silences/0", "/silences/03", "/silences/-3", "/silences/+3", "/silences/x", "/silences/3/", "/silences/3/x", "/silences%2F3", "/silences/9223372036854775808", "/Groups", "/groups/", "/groups%3F", "/watch/3", "/outbox/3"} {
			for _, body := range []string{"", "x", silenceBody} {
				expectStatus(t, request(method, target, body), 404)
				expectStatus(t, request(method, target+"?x=1", body, "If-Match", "x"), 404)
			}
		}
	}
	for path, allowed := range map[string][]string{"/alerts": {"POST"}, "/silences": {"POST"}, "/silences/3": {"GET", "PUT", "DELETE"}, "/groups": {"GET"}, "/watch": {"GET"}, "/outbox": {"GET"}} {
		for _, method := range methods {
			if slices.Contains(allowed, method) {
				continue
			}
			for _, body := range []string{"", "x", silenceBody} {
				expectStatus(t, request(method, path, body), 405)
				expectStatus(t, request(method, path+"?x=1", body, "If-Match", "x"), 405)
			}
		}
	}
}

// P29.1: pairs that may not stand, stand twice, or are wrong.
func TestOfWrongQueries(t *testing.T) {
	may := map[int][]string{core.Groups: {"filter", "by", "n", "cursor"}, core.Watch: {"filter", "rev", "wait"}, core.Out: {"rev"}}
	values := map[string][]string{ // the first one is right
		"filter": {"{}", "", "{", `{a=~"("}`, "{" + strings.Repeat(`a="1",`, 33) + "}", `{a=~"((a{16}){16}){2}"}`},
		"by":     {"a", ",", "9", "a,"},
		"n":      {"1", "", "0", "1001", "-1", "x", "2147483648"},
		"cursor": {"p1.0", "", "p0.0", "p01.0", "1.0", "p2147483648.0"},
		"rev":    {"1", "", "-1", "01", "x", "9223372036854775808"},
		"wait":   {"1", "", "-1", "x", "2147483648"},
	}
	for i, r := range right {
		path := r.Head.Target
		for name, l := range values {
			r.Head.Target = withQuery(path, name, l[0])
			if !slices.Contains(may[i+1], name) {
				expectStatus(t, r, 400)
				continue
			}
			if _, no := Of(r, 5, 10); no != 0 {
				t.Errorf("Of(%s) is %d", told(r), no)
			}
			r.Head.Target = withQuery(path, name, l[0], name, l[0])
			expectStatus(t, r, 400)
			for _, value := range l[1:] {
				r.Head.Target = withQuery(path, name, value)
				expectStatus(t, r, 400)
			}
		}
		for _, query := range []string{"x", "x=1", "=", "=1", "N=1", "Rev=1", "rev%20=1", "limit=1", "id=3", "labels=a"} {
			r.Head.Target = path + "?" + query
			expectStatus(t, r, 400)
		}
	}
}

// P29.1: a body where none may be, be the query right or not.
func TestOfNeedlessBodies(t *testing.T) {
	for _, i := range []int{2, 4, 5, 6, 7} {
		for _, body := range []string{" ", "x", "{}", "[]", "null", "\x00", alertsBody, silenceBody, strings.Repeat("x", 100000)} {
			r := right[i]
			r.Body = body
			expectStatus(t, r, 400)
			r.Head.Target += "?x"
			expectStatus(t, r, 400)
		}
	}
}

// wrongBodies are those that are no JSON, too deep, too long, of another form,
// or say what may not be.
var wrongBodies = []string{
	"", " ", "x", "nul", "[", "{", "[{]", "]", "\xFF", "\"\xFF\"", "1.5", "[] x", "{}{}", strings.Repeat("[", 17) + strings.Repeat("]", 17), "[" + strings.Repeat("[", 100000), strings.Repeat(`{"a":`, 17),
	"99999999999999999999", "[99999999999999999999]", "null", "true", "7", `"a"`, "{}", `{"a":1}`, "[1]", "[[]]", "[{}]", "[null]",
	`[{"labels":{}}]`, `[{"labels":{"a":""}}]`, `[{"labels":{"a":1}}]`, `[{"labels":{"a":"1"},"x":1}]`, `[{"labels":{"a":"1"},"endsAt":"1970-01-01T00:00:05Z"}]`, `[{"labels":{"a":"1"}},{}]`, "[" + silenceBody + "]",
	`{"matchers":"{a=\"1\"}"}`, `{"endsAt":"1970-01-01T00:00:09Z"}`, `{"matchers":"{}","endsAt":"1970-01-01T00:00:09Z"}`, `{"matchers":"x","endsAt":"1970-01-01T00:00:09Z"}`, `{"matchers":"{a=~\"(\"}","endsAt":"1970-01-01T00:00:09Z"}`, `{"matchers":"{a=\"1\"}","endsAt":"1970-01-01T00:00:04Z"}`, `{"matchers":"{a=\"1\"}","endsAt":9}`, `{"id":3,"matchers":"{a=\"1\"}","endsAt":"1970-01-01T00:00:09Z"}`,
}

// P29.1: bodies that have an error.
func TestOfWrongBodies(t *testing.T) {
	for _, i := range []int{0, 1, 3} {
		for _, body := range wrongBodies {
			r := right[i]
			r.Body = body
			expectStatus(t, r, 400)
		}
	}
	expectStatus(t, request("POST", "/alerts", silenceBody), 400)
	expectStatus(t, request("POST", "/silences", alertsBody), 400)
	expectStatus(t, request("PUT", "/silences/3", alertsBody, "If-Match", "*"), 400)
}

// P29.1: what is wrong first counts.
func TestOfTwoWrongs(t *testing.T) {
	for _, x := range []struct {
		method, target, body string
		fields               []string
		want                 int
	}{
		// The query, a body where none may be: ahead of a mark that lacks.
		{"PUT", "/silences/3?x=1", silenceBody, nil, 400},
		{"DELETE", "/silences/3?x=1", "", nil, 400},
		{"DELETE", "/silences/3?rev=1", "", nil, 400},
		{"DELETE", "/silences/3", "x", nil, 400},
		{"DELETE", "/silences/3", silenceBody, nil, 400},
		// A mark that lacks: ahead of a body's error.
		{"PUT", "/silences/3", "x", nil, 428},
		{"PUT", "/silences/3", "", nil, 428},
		{"PUT", "/silences/3", alertsBody, []string{"Host", "x"}, 428},
		{"PUT", "/silences/3", "x", []string{"If-Match", `"v3"`}, 400},
		{"PUT", "/silences/3", "x", []string{"If-Match", "x"}, 400},
		{"PUT", "/silences/3", silenceBody, []string{"If-Match", "x"}, 400},
		// The chapter's example.
		{"PUT", "/silences/3", silenceBody, nil, 428},
		{"DELETE", "/silences/3", "", nil, 428},
		// The target: ahead of all.
		{"PUT", "/silences/03", silenceBody, nil, 404},
		{"DELETE", "/silences/0?x=1", "x", nil, 404},
		{"POST", "/silences/3", "x", nil, 405},
		{"PUT", "/silences?x=1", "x", nil, 405},
		{"PATCH", "/nothing", "", nil, 404},
		{"PATCH", "/%", "", nil, 400},
		{"PUT", "/silences/3?%", silenceBody, nil, 400},
		{"PUT", "/nothing?%", "", nil, 400},
		{"PATCH", "/alerts?%", "", nil, 400},
	} {
		expectStatus(t, request(x.method, x.target, x.body, x.fields...), x.want)
	}
}

// Rules 4, 5: neither the request changes, nor what later answers tell.
func TestOfIsNew(t *testing.T) {
	post, groups, update := right[0], request("GET", "/groups?by=a,b", ""), request("PUT", "/silences/3", silenceBody, "If-Match", `"v3","v4"`)
	for _, r := range []wire.Request{post, groups, update} {
		fields := slices.Clone(r.Head.Fields)
		a, _ := Of(r, 5, 10)
		want := text(a)
		for i := range a.Op.By {
			a.Op.By[i] = "x"
		}
		for i := range a.Op.Have.Tags {
			a.Op.Have.Tags[i] = etag.Tag{}
		}
		for i := range a.Op.Alerts {
			a.Op.Alerts[i] = alert.Alert{}
		}
		if text(a) == want {
			t.Errorf("nothing was written into %s", want)
		}
		if b, _ := Of(r, 5, 10); text(b) != want {
			t.Errorf("Of(%s) became %s, not %s", told(r), text(b), want)
		}
		if !slices.Equal(r.Head.Fields, fields) {
			t.Errorf("the fields %q became %q", fields, r.Head.Fields)
		}
		a, _ = Of(r, 5, 10)
		clear(r.Head.Fields)
		if text(a) != want {
			t.Errorf("with the fields went %s", want)
		}
		copy(r.Head.Fields, fields)
	}
}

// The ways of the chapter: what is wrong wraps a status, and says where it is.
func TestFault(t *testing.T) {
	_, err := asked(request("PUT", "/silences/3", silenceBody), 5, 10)
	if err == nil || err.Error() != "If-Match: status 428" {
		t.Errorf("it is %v", err)
	}
}
