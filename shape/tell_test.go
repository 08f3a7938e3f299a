package shape

import (
	"math"
	"strings"
	"testing"

	"larum/alert"
	"larum/api"
	"larum/clog"
	"larum/core"
	"larum/etag"
	"larum/group"
	"larum/label"
	"larum/mv"
	"larum/note"
	"larum/silence"
)

// ofSilences is the kinds of which a silence is told; ofRev those, and numbers
// beyond them, of which the revision alone is.
var (
	ofSilences = []int{core.Create, core.Read, core.Update, core.Expire}
	ofRev      = []int{core.Post, core.Tick, 0, -1, 10, 11, 100, 1 << 33, math.MaxInt, math.MinInt}
)

// kinds is all of them.
var kinds = append(append([]int{core.Groups, core.Watch, core.Out}, ofSilences...), ofRev...)

// quiet is a right silence, as text quietText.
var quiet = silence.Silence{ID: 2, Match: `{a="1"}`, Starts: 3, Ends: 9, By: "by", Note: "é\n", State: silence.Active}

const quietText = `{"comment":"é\n","createdBy":"by","endsAt":"1970-01-01T00:00:09Z","id":2,"matchers":"{a=\"1\"}","startsAt":"1970-01-01T00:00:03Z","state":"active"}`

// oneText is the text of one("1", 5, 9), without its end.
const oneText = `{"annotations":{"n":"x"},"endsAt":"1970-01-01T00:00:09Z","labels":{"a":"1"}`

// full is a reply that has all there is.
func full() core.Reply {
	return core.Reply{
		Code:    api.ErrGone,
		Rev:     7,
		Silence: quiet,
		Tag:     etag.Of(7),
		Groups: []group.Group{
			{Key: set("a", "1"), Members: []group.Member{{Alert: one("1", 5, 9), By: []int64{2, 3}}, {Alert: one("1", 6, 9)}}},
			{Key: set("a", "2"), Members: []group.Member{{Alert: one("2", 5, 9), By: []int64{4}}}},
		},
		Next: core.Cursor{Pin: 3, At: 20},
		Entries: []clog.Entry{
			{Rev: 1, Change: mv.Change{Key: `a/{a="1"}`, Val: alert.Encode(one("1", 5, 9))}},
			{Rev: 1, Change: mv.Change{Key: "s/0000000002", Val: silence.Encode(quiet)}},
			{Rev: 4, Change: mv.Change{Key: `a/{a="1"}`, Gone: true}},
		},
		Notes: []note.Entry{{Seq: 1, Rev: 1, Group: `{a="1"}`, Firing: true}, {Seq: 2, Rev: 4, Group: `{a="1"}`}},
	}
}

func expectBody(t *testing.T, kind int, r core.Reply, want string) {
	t.Helper()
	if got := Body(kind, r); got != want {
		t.Errorf("Body of %d is %.400s, not %.400s", kind, got, want)
	}
}

// P28.2: what each kind tells of a reply that has all, and of an empty one.
func TestBody(t *testing.T) {
	for _, kind := range ofSilences {
		expectBody(t, kind, full(), quietText)
		expectBody(t, kind, core.Reply{Rev: 7}, `{"comment":"","createdBy":"","endsAt":"1970-01-01T00:00:00Z","id":0,"matchers":"","startsAt":"1970-01-01T00:00:00Z","state":""}`)
	}
	for _, kind := range ofRev {
		expectBody(t, kind, full(), `{"rev":7}`)
		expectBody(t, kind, core.Reply{}, `{"rev":0}`)
	}
	expectBody(t, core.Groups, full(), `{"groups":[{"alerts":[`+
		oneText+`,"silencedBy":[2,3],"startsAt":"1970-01-01T00:00:05Z"},`+
		oneText+`,"silencedBy":[],"startsAt":"1970-01-01T00:00:06Z"}],"key":{"a":"1"}},{"alerts":[`+
		strings.ReplaceAll(oneText, "1\"}", "2\"}")+`,"silencedBy":[4],"startsAt":"1970-01-01T00:00:05Z"}],"key":{"a":"2"}}],"next":"p3.20","rev":7}`)
	expectBody(t, core.Watch, full(), `{"changes":[{"key":"a/{a=\"1\"}","rev":1,"value":`+oneText+`,"startsAt":"1970-01-01T00:00:05Z"}},`+
		`{"key":"s/0000000002","rev":1,"value":`+quietText+`},{"key":"a/{a=\"1\"}","rev":4,"value":null}],"rev":7}`)
	expectBody(t, core.Out, full(), `{"notes":[{"firing":true,"group":"{a=\"1\"}","rev":1,"seq":1},{"firing":false,"group":"{a=\"1\"}","rev":4,"seq":2}],"rev":7}`)
	expectBody(t, core.Groups, core.Reply{}, `{"groups":[],"rev":0}`)
	expectBody(t, core.Watch, core.Reply{}, `{"changes":[],"rev":0}`)
	expectBody(t, core.Out, core.Reply{}, `{"notes":[],"rev":0}`)
	// Empty lists are as none.
	empty := core.Reply{Groups: []group.Group{}, Entries: []clog.Entry{}, Notes: []note.Entry{}}
	for _, kind := range kinds {
		expectBody(t, kind, empty, Body(kind, core.Reply{}))
	}
}

// P28.2: next stands there just if its Pin is above 0.
func TestBodyOfNext(t *testing.T) {
	for _, x := range []struct {
		next core.Cursor
		want string
	}{
		{core.Cursor{Pin: 1, At: 2}, `{"groups":[],"next":"p1.2","rev":7}`},
		{core.Cursor{Pin: 1}, `{"groups":[],"next":"p1.0","rev":7}`},
		{core.Cursor{Pin: math.MaxInt64, At: math.MaxInt64}, `{"groups":[],"next":"p9223372036854775807.9223372036854775807","rev":7}`},
		{core.Cursor{Pin: 1, At: -1}, `{"groups":[],"next":"","rev":7}`},
		{core.Cursor{}, `{"groups":[],"rev":7}`},
		{core.Cursor{At: 5}, `{"groups":[],"rev":7}`},
		{core.Cursor{Pin: -1, At: 5}, `{"groups":[],"rev":7}`},
		{core.Cursor{Pin: math.MinInt64, At: math.MinInt64}, `{"groups":[],"rev":7}`},
	} {
		expectBody(t, core.Groups, core.Reply{Rev: 7, Next: x.next}, x.want)
		expectBody(t, core.Watch, core.Reply{Rev: 7, Next: x.next}, `{"changes":[],"rev":7}`)
	}
}

// P28.2: the greatest and the lowest numbers, and times that are none.
func TestBodyOfNumbers(t *testing.T) {
	for n, text := range map[int64]string{math.MaxInt64: "9223372036854775807", math.MinInt64: "-9223372036854775808", -1: "-1", 0: "0", api.MaxRev + 1: "9007199254740992"} {
		expectBody(t, core.Post, core.Reply{Rev: n}, `{"rev":`+text+`}`)
		expectBody(t, core.Groups, core.Reply{Rev: n, Groups: []group.Group{{Members: []group.Member{{By: []int64{n, n}}}}}},
			`{"groups":[{"alerts":[{"annotations":{},"endsAt":"1970-01-01T00:00:00Z","labels":{},"silencedBy":[`+text+","+text+`],"startsAt":"1970-01-01T00:00:00Z"}],"key":{}}],"rev":`+text+`}`)
		expectBody(t, core.Watch, core.Reply{Rev: n, Entries: []clog.Entry{{Rev: n, Change: mv.Change{Val: text}}}}, `{"changes":[{"key":"","rev":`+text+`,"value":`+text+`}],"rev":`+text+`}`)
		expectBody(t, core.Out, core.Reply{Rev: n, Notes: []note.Entry{{Seq: n, Rev: n}}}, `{"notes":[{"firing":false,"group":"","rev":`+text+`,"seq":`+text+`}],"rev":`+text+`}`)
		expectBody(t, core.Read, core.Reply{Rev: n, Silence: silence.Silence{ID: n}}, `{"comment":"","createdBy":"","endsAt":"1970-01-01T00:00:00Z","id":`+text+`,"matchers":"","startsAt":"1970-01-01T00:00:00Z","state":""}`)
	}
	for _, sec := range []int64{-1, api.MaxTime + 1, math.MaxInt64, math.MinInt64} {
		expectBody(t, core.Create, core.Reply{Silence: silence.Silence{Starts: sec, Ends: sec}}, `{"comment":"","createdBy":"","endsAt":"","id":0,"matchers":"","startsAt":"","state":""}`)
		expectBody(t, core.Groups, core.Reply{Groups: []group.Group{{Members: []group.Member{{Alert: alert.Alert{Starts: sec, Ends: sec}}}}}},
			`{"groups":[{"alerts":[{"annotations":{},"endsAt":"","labels":{},"silencedBy":[],"startsAt":""}],"key":{}}],"rev":0}`)
	}
}

// changed: a reply of one change.
func changed(c mv.Change) core.Reply {
	return core.Reply{Rev: 7, Entries: []clog.Entry{{Rev: 4, Change: c}}}
}

// P28.2: what a Val is as JSON, however it is written; null, if it is gone,
// whatever its Val is.
func TestBodyOfValues(t *testing.T) {
	for val, want := range map[string]string{
		"null": "null", " null ": "null", "7": "7", "-0": "0", "true": "true", `"a"`: `"a"`, `"\u0061"`: `"a"`, "[]": "[]", "\n[ 1 ,\t2 ]": "[1,2]", `{"b":1,"a":[true]}`: `{"a":[true],"b":1}`, nested(13): nested(13),
	} {
		expectBody(t, core.Watch, changed(mv.Change{Key: "k", Val: val}), `{"changes":[{"key":"k","rev":4,"value":`+want+`}],"rev":7}`)
	}
	for _, val := range []string{"", "7", "x", "\xFF", quietText, nested(17)} {
		expectBody(t, core.Watch, changed(mv.Change{Key: "k", Val: val, Gone: true}), `{"changes":[{"key":"k","rev":4,"value":null}],"rev":7}`)
	}
}

// P28.2: nothing, if it can't be written.
func TestNoBody(t *testing.T) {
	for _, val := range []string{"", " ", "x", "1.5", "1e400", "99999999999999999999", "[", "[1,]", "{}x", `{"a":1,"a":1}`, "\"\xFF\"", "\xFF", `"\uD800"`, nested(14), nested(16), nested(17), nested(1000)} {
		expectBody(t, core.Watch, changed(mv.Change{Key: "k", Val: val}), "")
		r := full()
		r.Entries = append(r.Entries, clog.Entry{Rev: 5, Change: mv.Change{Key: "k", Val: val}})
		expectBody(t, core.Watch, r, "")
	}
	for _, s := range []string{"\xFF", "a\xC3", "\xED\xA0\x80", strings.Repeat("x", 1000) + "\x80"} {
		expectBody(t, core.Watch, changed(mv.Change{Key: s, Gone: true}), "")
		expectBody(t, core.Watch, changed(mv.Change{Key: s, Val: "1"}), "")
		expectBody(t, core.Out, core.Reply{Notes: []note.Entry{{Group: s}}}, "")
		for _, x := range []silence.Silence{{Match: s}, {By: s}, {Note: s}, {State: s}} {
			for _, kind := range ofSilences {
				expectBody(t, kind, core.Reply{Silence: x}, "")
			}
			for _, kind := range ofRev {
				expectBody(t, kind, core.Reply{Rev: 3, Silence: x}, `{"rev":3}`)
			}
			expectBody(t, core.Out, core.Reply{Silence: x}, `{"notes":[],"rev":0}`)
		}
	}
}

// Rules 4 and 5: what is told is neither changed nor kept.
func TestBodyChangesNothing(t *testing.T) {
	r := full()
	for _, kind := range kinds {
		text := Body(kind, r)
		if other := Body(kind, full()); text != other {
			t.Errorf("of %d it is %s, not %s", kind, text, other)
		}
	}
	r.Groups[0].Members[0].By[0] = 99
	r.Groups[1] = group.Group{Key: label.Set{}}
	if got := Body(core.Groups, r); !strings.Contains(got, "[99,3]") || !strings.Contains(got, `{"alerts":[],"key":{}}`) {
		t.Errorf("it is %s", got)
	}
}
