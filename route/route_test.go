package route

import (
	"fmt"
	"math"
	"slices"
	"strings"
	"testing"

	"larum/api"
	"larum/clog"
	"larum/core"
	"larum/etag"
	"larum/group"
	"larum/head"
	"larum/mv"
	"larum/note"
	"larum/reply"
	"larum/shape"
	"larum/silence"
)

// methods has those of HTTP that are done, and what is none of them.
var methods = []string{"GET", "POST", "PUT", "DELETE", "HEAD", "PATCH", "OPTIONS", "get", "Post", "GETS", "GE", " GET", "GET ", "", "\x00", "*"}

// parts: those of a target, cut at each /.
func parts(s string) []string { return strings.Split(s, "/") }

func expectKind(t *testing.T, method string, l []string, kind int, id int64, status int) {
	t.Helper()
	handed := slices.Clone(l)
	if k, i, no := Kind(method, handed); k != kind || i != id || no != status {
		t.Errorf("Kind(%q, %q) is %d, %d, %d, not %d, %d, %d", method, l, k, i, no, kind, id, status)
	}
	if !slices.Equal(handed, l) {
		t.Errorf("the parts %q became %q", l, handed)
	}
}

// P29.1: each target by each method: its kind, or 405.
func TestKind(t *testing.T) {
	for target, by := range map[string]map[string]int{
		"alerts":     {"POST": core.Post},
		"silences":   {"POST": core.Create},
		"silences/7": {"GET": core.Read, "PUT": core.Update, "DELETE": core.Expire},
		"groups":     {"GET": core.Groups},
		"watch":      {"GET": core.Watch},
		"outbox":     {"GET": core.Out},
	} {
		id := int64(0)
		if target == "silences/7" {
			id = 7
		}
		for _, method := range methods {
			if kind, ok := by[method]; ok {
				expectKind(t, method, parts(target), kind, id, 0)
			} else {
				expectKind(t, method, parts(target), 0, 0, 405)
			}
		}
	}
}

// P29.1: the kinds as the chapter counts them.
func TestKindsByNumber(t *testing.T) {
	for i, l := range [][2]string{{"POST", "alerts"}, {"POST", "silences"}, {"GET", "silences/1"}, {"PUT", "silences/1"}, {"DELETE", "silences/1"}, {"GET", "groups"}, {"GET", "watch"}, {"GET", "outbox"}} {
		if kind, _, no := Kind(l[0], parts(l[1])); kind != i+1 || no != 0 {
			t.Errorf("%s /%s is of kind %d, %d", l[0], l[1], kind, no)
		}
	}
}

// P29.1: there are no such parts, whatever the method.
func TestNoParts(t *testing.T) {
	lists := [][]string{nil, {}, {""}, {"", ""}, {"alerts/"}, {"silences/3"}, {"\xFF"}, slices.Repeat([]string{"alerts"}, 10000), {strings.Repeat("alerts", 10000)}}
	for _, s := range []string{
		"nothing", "alert", "alertss", "Alerts", "ALERTS", " alerts", "alerts ", "silence", "Silences", "group", "watches", "out", "tick", "3", "7/silences",
		"alerts/", "alerts/1", "alerts/3", "/alerts", "groups/", "groups/1", "groups/3", "watch/", "watch/1", "outbox/", "outbox/1", "nothing/1", "nothing/",
		"silences/", "silences//", "silences/3/", "silences/3/4", "silences/3/x", "silences//3", "/silences/3", "silences/silences", "alerts/alerts", "v1/alerts", "alerts/silences/3",
	} {
		lists = append(lists, parts(s))
	}
	for _, l := range lists {
		for _, method := range methods {
			expectKind(t, method, l, 0, 0, 404)
		}
	}
}

// P29.1: IDs are numbers above 0, written in one way.
func TestIDs(t *testing.T) {
	for _, method := range []string{"GET", "PUT", "DELETE"} {
		kind := map[string]int{"GET": core.Read, "PUT": core.Update, "DELETE": core.Expire}[method]
		for _, id := range []int64{1, 2, 3, 9, 10, 11, 100, 12345, 9999999999, 10000000000, math.MaxInt32, math.MaxInt32 + 1, math.MaxInt64 - 1, math.MaxInt64} {
			expectKind(t, method, []string{"silences", fmt.Sprint(id)}, kind, id, 0)
		}
	}
	for _, id := range []string{
		"0", "00", "-0", "-1", "-3", "+3", "03", "003", "-03", "+0", "3 ", " 3", "3.", "3.0", "0x3", "3e0", "3_0", "x", "3x", "x3", "", " ", "３", "\xFF", "3\x00", "s/0000000003", "v3", "\"3\"", "*",
		"9223372036854775808", "-9223372036854775808", "-9223372036854775809", "18446744073709551617", "99999999999999999999", strings.Repeat("9", 10000), strings.Repeat("0", 10000) + "3",
	} {
		for _, method := range methods {
			expectKind(t, method, []string{"silences", id}, 0, 0, 404)
		}
	}
}

// allErrors has the document's errors, and numbers that are none.
var allErrors = []api.Errno{api.OK, api.ErrArg, api.ErrNil, api.ErrForm, api.ErrDeep, api.ErrLong, api.ErrNone, api.ErrFull, api.ErrStale, api.ErrGone, api.ErrState, api.ErrMore, 12, 13, 200, -1, -6, 1 << 32, 1<<32 + 6, math.MaxInt, math.MinInt}

// allKinds has all that may be asked, and numbers that are of no kind.
var allKinds = []int{1, 2, 3, 4, 5, 6, 7, 8, 9, 0, -1, -6, 10, 11, 1 << 32, 1<<32 + 2, 1<<32 + 5, 1<<32 + 6, math.MaxInt, math.MinInt}

// statusBy: by the chapter's words.
func statusBy(kind int, e api.Errno) int {
	switch {
	case e == api.OK && kind == 2:
		return 201
	case e == api.OK && kind == 5:
		return 204
	case e == api.OK:
		return 200
	case e == api.ErrNone:
		return 404
	case e == api.ErrGone || e == api.ErrState:
		return 410
	case e == api.ErrStale:
		return 412
	case e == api.ErrFull && kind == 6:
		return 503
	case e == api.ErrFull:
		return 507
	}
	return 400
}

// P29.2: the status of each kind with each error.
func TestStatus(t *testing.T) {
	for _, kind := range allKinds {
		for _, e := range allErrors {
			if got, want := Status(kind, e), statusBy(kind, e); got != want {
				t.Errorf("Status(%d, %d) is %d, not %d", kind, e, got, want)
			}
		}
	}
	// Some of them as numbers of their own.
	for _, x := range []struct{ kind, e, want int }{
		{core.Post, 0, 200}, {core.Create, 0, 201}, {core.Read, 0, 200}, {core.Update, 0, 200}, {core.Expire, 0, 204}, {core.Groups, 0, 200}, {core.Watch, 0, 200}, {core.Out, 0, 200}, {core.Tick, 0, 200},
		{core.Post, 1, 400}, {core.Read, 6, 404}, {core.Create, 7, 507}, {core.Groups, 7, 503}, {core.Update, 8, 412}, {core.Watch, 9, 410}, {core.Expire, 10, 410}, {core.Watch, 11, 400}, {core.Read, 2, 400},
	} {
		if got := Status(x.kind, api.Errno(x.e)); got != x.want {
			t.Errorf("Status(%d, %d) is %d, not %d", x.kind, x.e, got, x.want)
		}
	}
}

// jsonField is what each reply has.
var jsonField = head.Field{Name: "Content-Type", Value: "application/json"}

func markField(value string) head.Field { return head.Field{Name: "ETag", Value: value} }

func expectReply(t *testing.T, what string, got reply.Reply, status int, body string, l ...head.Field) {
	t.Helper()
	if got.Status != status || got.Body != body || !slices.Equal(got.Fields, l) {
		t.Errorf("%s is %+v, not %d %q of %+v", what, got, status, body, l)
	}
}

// full is a reply of the machine in which all stands.
func full() core.Reply {
	return core.Reply{
		Rev:     7,
		Silence: silence.Silence{ID: 3, Match: `{a="1"}`, Starts: 1, Ends: 9, By: "b", Note: "n", State: silence.Active},
		Tag:     etag.Tag{Text: "v7"},
		Groups:  []group.Group{{}},
		Next:    core.Cursor{Pin: 3, At: 20},
		Entries: []clog.Entry{{Rev: 6, Change: mv.Change{Key: "k", Val: "[1]"}}, {Rev: 7, Change: mv.Change{Key: "k", Gone: true}}},
		Notes:   []note.Entry{{Seq: 1, Rev: 7, Group: "{}", Firing: true}},
	}
}

// P29.2: what is told of each kind, if it was done.
func TestReply(t *testing.T) {
	for _, kind := range allKinds {
		a := Ask{Op: core.Op{Kind: kind}, Wait: 9}
		got := Reply(a, full())
		what := fmt.Sprintf("Reply of kind %d", kind)
		switch kind {
		case 2:
			expectReply(t, what, got, 201, shape.Body(kind, full()), markField(`"v7"`), jsonField)
		case 3, 4:
			expectReply(t, what, got, 200, shape.Body(kind, full()), markField(`"v7"`), jsonField)
		case 5:
			expectReply(t, what, got, 204, "", jsonField)
		default:
			expectReply(t, what, got, 200, shape.Body(kind, full()), jsonField)
		}
		if _, e := reply.Encode(got); e != api.OK {
			t.Errorf("%s can't be written: %d", what, e)
		}
	}
}

// P29.2: some bodies as texts.
func TestBodies(t *testing.T) {
	const theSilence = `{"comment":"n","createdBy":"b","endsAt":"1970-01-01T00:00:09Z","id":3,"matchers":"{a=\"1\"}","startsAt":"1970-01-01T00:00:01Z","state":"active"}`
	for kind, want := range map[int]string{
		core.Post:   `{"rev":7}`,
		core.Create: theSilence,
		core.Read:   theSilence,
		core.Update: theSilence,
		core.Expire: "",
		core.Groups: `{"groups":[{"alerts":[],"key":{}}],"next":"p3.20","rev":7}`,
		core.Watch:  `{"changes":[{"key":"k","rev":6,"value":[1]},{"key":"k","rev":7,"value":null}],"rev":7}`,
		core.Out:    `{"notes":[{"firing":true,"group":"{}","rev":7,"seq":1}],"rev":7}`,
		core.Tick:   `{"rev":7}`,
	} {
		if got := Reply(Ask{Op: core.Op{Kind: kind}}, full()).Body; got != want {
			t.Errorf("of kind %d it is %s, not %s", kind, got, want)
		}
	}
	// What can't be written has no body.
	wrong := core.Reply{Silence: silence.Silence{Note: "\xFF"}, Tag: etag.Tag{Text: "v1"}}
	expectReply(t, "a silence that is not valid", Reply(Ask{Op: core.Op{Kind: core.Read}}, wrong), 200, "", markField(`"v1"`), jsonField)
}

// P29.2: the error, whatever else stands there; no mark.
func TestReplyOfErrors(t *testing.T) {
	words := map[api.Errno]string{1: "argument", 3: "form", 4: "deep", 5: "long", 6: "none", 7: "full", 8: "stale", 9: "gone", 10: "state", 11: "more"}
	for _, kind := range allKinds {
		for _, e := range allErrors {
			if e == api.OK {
				continue
			}
			word, ok := words[e]
			if !ok {
				word = "other"
			}
			for _, r := range []core.Reply{full(), {}} {
				r.Code = e
				expectReply(t, fmt.Sprintf("Reply of kind %d, of %d", kind, e), Reply(Ask{Op: core.Op{Kind: kind}}, r), statusBy(kind, e), `{"error":"`+word+`"}`, jsonField)
			}
		}
	}
}

// P29.2: marks as text; nothing of one that can't be written.
func TestMarks(t *testing.T) {
	for _, kind := range []int{core.Create, core.Read, core.Update} {
		for tag, want := range map[etag.Tag]string{
			{Text: "v0"}: `"v0"`, {Text: "v9223372036854775807"}: `"v9223372036854775807"`, {}: `""`, {Text: "a,b"}: `"a,b"`, {Text: "é"}: `"é"`,
			{Weak: true, Text: "v3"}: `W/"v3"`, {Text: "a b"}: "", {Text: `"`}: "", {Text: "a\r\nb"}: "", {Text: "\x00"}: "",
		} {
			r := full()
			r.Tag = tag
			got := Reply(Ask{Op: core.Op{Kind: kind}}, r)
			if !slices.Equal(got.Fields, []head.Field{markField(want), jsonField}) {
				t.Errorf("of %+v the fields are %+v", tag, got.Fields)
			}
			if _, e := reply.Encode(got); e != api.OK {
				t.Errorf("of %+v the reply can't be written", tag)
			}
		}
	}
}

// P29.2: of a status, of one without a body, and of one that is none.
func TestRefused(t *testing.T) {
	for _, status := range []int{400, 404, 405, 408, 413, 414, 428, 431, 501, 503, 505, 507, 200, 599, 0, 1, 199, 600, -1, -404, math.MaxInt, math.MinInt, 1<<32 + 204} {
		expectReply(t, fmt.Sprintf("Refused(%d)", status), Refused(status), status, `{"error":"form"}`, jsonField)
	}
	for _, status := range []int{204, 304} {
		expectReply(t, fmt.Sprintf("Refused(%d)", status), Refused(status), status, "", jsonField)
	}
}

// Rules 4, 6: what a caller writes into a reply is seen by no later one.
func TestRepliesAreNew(t *testing.T) {
	replies := map[string]func() reply.Reply{
		"a silence": func() reply.Reply { return Reply(Ask{Op: core.Op{Kind: core.Read}}, full()) },
		"a page":    func() reply.Reply { return Reply(Ask{Op: core.Op{Kind: core.Groups}}, full()) },
		"an error":  func() reply.Reply { return Reply(Ask{}, core.Reply{Code: api.ErrNone}) },
		"refused":   func() reply.Reply { return Refused(400) },
	}
	for what, f := range replies {
		want := f()
		got := f()
		got.Fields[0] = head.Field{Name: "x", Value: "y"}
		_ = append(got.Fields[:0], head.Field{}, head.Field{})
		expectReply(t, what, f(), want.Status, want.Body, want.Fields...)
	}
}
