package shape

import (
	"math"
	"slices"
	"strings"
	"testing"

	"larum/alert"
	"larum/api"
	"larum/clog"
	"larum/core"
	"larum/group"
	"larum/jtok"
	"larum/jval"
	"larum/mv"
	"larum/note"
	"larum/silence"
)

func sameReply(a, b core.Reply) bool {
	return a.Code == b.Code && a.Rev == b.Rev && a.Silence == b.Silence && a.Tag == b.Tag && a.Next == b.Next &&
		slices.EqualFunc(a.Groups, b.Groups, sameGroup) && slices.Equal(a.Entries, b.Entries) && slices.Equal(a.Notes, b.Notes)
}

// tells: what a kind tells of a reply, and nothing else.
func tells(kind int, r core.Reply) core.Reply {
	switch {
	case slices.Contains(ofSilences, kind):
		return core.Reply{Silence: r.Silence}
	case kind == core.Groups && r.Next.Pin > 0:
		return core.Reply{Rev: r.Rev, Groups: r.Groups, Next: r.Next}
	case kind == core.Groups:
		return core.Reply{Rev: r.Rev, Groups: r.Groups}
	case kind == core.Watch:
		return core.Reply{Rev: r.Rev, Entries: r.Entries}
	case kind == core.Out:
		return core.Reply{Rev: r.Rev, Notes: r.Notes}
	}
	return core.Reply{Rev: r.Rev}
}

func expectRead(t *testing.T, kind int, body string, want core.Reply) {
	t.Helper()
	if r, e := Read(kind, body); e != api.OK || !sameReply(r, want) {
		t.Errorf("Read(%d, %.400s) is %+v, %d, not %+v", kind, body, r, e, want)
	}
}

func expectNoRead(t *testing.T, kind int, body string) {
	t.Helper()
	if r, e := Read(kind, body); e != api.ErrForm || !sameReply(r, core.Reply{}) {
		t.Errorf("Read(%d, %.400q) is %+v, %d", kind, body, r, e)
	}
}

// expectBodyOrNoRead: body is either of no reply, or the Body of the one that
// is read: is it?
func expectBodyOrNoRead(t *testing.T, kind int, body string) bool {
	t.Helper()
	r, e := Read(kind, body)
	if e == api.OK {
		if got := Body(kind, r); got != body || !sameReply(r, tells(kind, r)) {
			t.Errorf("Read(%d, %q) is %+v, of which Body is %s", kind, body, r, got)
		}
		return true
	}
	if e != api.ErrForm || !sameReply(r, core.Reply{}) {
		t.Errorf("Read(%d, %q) is %+v, %d", kind, body, r, e)
	}
	return false
}

// replies is replies whose alerts and silences are right.
func replies() []core.Reply {
	pending := silence.Silence{Match: `{a=~"x.*",b!="\\"}`, Starts: 5, Ends: api.MaxTime, State: silence.Pending}
	expired := silence.Silence{ID: math.MaxInt64, Match: `{a!~""}`, Note: strings.Repeat("\"", 1000), State: silence.Expired}
	many := core.Reply{Rev: api.MaxRev, Silence: expired, Next: core.Cursor{Pin: 1}}
	for i := range int64(20) {
		many.Groups = append(many.Groups, groupsOfAll()...)
		many.Entries = append(many.Entries, clog.Entry{Rev: i, Change: mv.Change{Key: silence.Key(i), Val: silence.Encode(pending)}}, clog.Entry{Rev: i, Change: mv.Change{Key: silence.Key(i), Gone: true}})
		many.Notes = append(many.Notes, note.Entry{Seq: i, Rev: i / 2, Group: strings.Repeat("é", int(i)), Firing: i%3 == 0})
	}
	return []core.Reply{
		full(),
		{Silence: pending},
		{Rev: 1, Silence: silence.Silence{Match: `{a="1"}`, State: silence.Active}, Next: core.Cursor{Pin: math.MaxInt32, At: math.MaxInt32}},
		many,
		{Rev: -1, Silence: expired, Next: core.Cursor{Pin: math.MaxInt32 + 1, At: math.MaxInt32 + 1}, Notes: []note.Entry{{Seq: -1, Rev: -2, Group: "", Firing: true}, {Seq: math.MinInt64, Rev: math.MaxInt64, Group: "\x00\"\\\n"}}},
		{Rev: math.MaxInt64, Silence: quiet, Next: core.Cursor{Pin: math.MaxInt64, At: math.MaxInt64}, Groups: groupsOfAll()[2:]},
		{Rev: math.MinInt64, Silence: quiet, Next: core.Cursor{Pin: -5, At: 9}, Groups: groupsOfAll()[:1]},
	}
}

// P28.3, P28.4: Read of Body, of each kind.
func TestReadOfBody(t *testing.T) {
	for _, r := range replies() {
		for _, kind := range kinds {
			expectRead(t, kind, Body(kind, r), tells(kind, r))
		}
	}
}

// P28.3: a revision alone, as it is written.
func TestReadOfRev(t *testing.T) {
	for _, kind := range ofRev {
		expectRead(t, kind, `{"rev":7}`, core.Reply{Rev: 7})
		expectRead(t, kind, `{"rev":0}`, core.Reply{})
		expectRead(t, kind, `{"rev":-9223372036854775808}`, core.Reply{Rev: math.MinInt64})
		for _, body := range []string{"", "7", "null", "[]", "{}", `"rev"`, `{"rev":7}x`, `{"rev":7} `, ` {"rev":7}`, `{"rev": 7}`, `{"rev" :7}`, `{"rev":7,}`, `{"rev":07}`, `{"rev":-0}`, `{"rev":7.0}`, `{"rev":"7"}`, `{"rev":null}`, `{"rev":true}`, `{"rev":[]}`, `{"rev":{}}`, `{"r\u0065v":7}`, `{"Rev":7}`, `{"rev":7,"rev":7}`, `{"rev":7,"x":1}`, `{"a":1,"rev":7}`, `{"rev":9223372036854775808}`, `[{"rev":7}]`, "{\"rev\":7}\n", "{\"rev\":7}\x00", "\uFEFF{\"rev\":7}", "\xFF", nested(17), `{"groups":[],"rev":7}`, `{"changes":[],"rev":7}`, `{"notes":[],"rev":7}`, quietText} {
			expectNoRead(t, kind, body)
		}
	}
}

// P28.3: just what Decode takes is a silence, of rev 0.
func TestReadOfSilence(t *testing.T) {
	for _, kind := range ofSilences {
		expectRead(t, kind, quietText, core.Reply{Silence: quiet})
		for _, s := range []silence.Silence{
			{}, {Match: `{a="1"}`}, {Match: `{}`, State: silence.Active}, {Match: `{ a="1" }`, State: silence.Active}, {ID: -1, Match: `{a="1"}`, State: silence.Active}, {Match: `{a="1"}`, Starts: 2, Ends: 1, State: silence.Active}, {Match: `{a="1"}`, Starts: -1, State: silence.Active}, {Match: `{a="1"}`, State: "Active"}, {Match: `{a="1"}`, By: "\xFF", State: silence.Active},
		} {
			expectNoRead(t, kind, Body(kind, core.Reply{Silence: s}))
		}
		for _, body := range []string{"", "{}", "null", quietText + " ", " " + quietText, strings.Replace(quietText, `,"id":2`, "", 1), strings.Replace(quietText, `{"comment"`, `{"a":1,"comment"`, 1), strings.TrimSuffix(quietText, "}") + `,"z":1}`, strings.TrimSuffix(quietText, "}") + `,"rev":7}`, strings.Replace(quietText, "é", `\u00e9`, 1), `{"rev":7}`} {
			expectNoRead(t, kind, body)
		}
	}
}

// P28.3: groups of right alerts; where the next page begins.
func TestReadOfGroups(t *testing.T) {
	text := Body(core.Groups, core.Reply{Rev: 7, Groups: full().Groups[:1], Next: core.Cursor{Pin: 3, At: 20}})
	expectRead(t, core.Groups, text, core.Reply{Rev: 7, Groups: full().Groups[:1], Next: core.Cursor{Pin: 3, At: 20}})
	for _, x := range [][2]string{
		{`,"rev":7`, ""}, {`"rev":7`, `"rev":"7"`}, {`"rev":7`, `"rev":null`}, {`"rev":7`, `"rev":7,"x":1`}, {`{"groups"`, `{"changes":[],"groups"`}, {`"groups":[`, `"groups":[null,`}, {`"groups":[`, `"groups":[{},`}, {`"groups":[`, `"groups":[1,`}, {`"groups":[`, `"groups":[[],`},
		{`"p3.20"`, `"p03.20"`}, {`"p3.20"`, `"p0.20"`}, {`"p3.20"`, `"p-3.20"`}, {`"p3.20"`, `"p+3.20"`}, {`"p3.20"`, `"p3.-20"`}, {`"p3.20"`, `"p3.+20"`}, {`"p3.20"`, `"p3"`}, {`"p3.20"`, `"3.20"`}, {`"p3.20"`, `"pp3.20"`}, {`"p3.20"`, `""`}, {`"p3.20"`, `"x"`}, {`"p3.20"`, `"p3.20.1"`}, {`"p3.20"`, `"p3.20 "`}, {`"p3.20"`, `"p3.\u00320"`}, {`"p3.20"`, "null"}, {`"p3.20"`, "3"}, {`"p3.20"`, `["p3.20"]`}, {`"p3.20"`, `"p9223372036854775808.0"`}, {`"p3.20"`, `"p1.9223372036854775808"`},
		// Alerts that are not right, and other forms of groups.
		{`"labels":{"a":"1"}`, `"labels":{}`}, {`"labels":{"a":"1"}`, `"labels":{"a":""}`}, {`"labels":{"a":"1"}`, `"labels":{"b":"1","a":"1"}`}, {"05Z", "09Z"}, {"09Z", "05Z"}, {`"1970-01-01T00:00:05Z"`, `""`}, {"[2,3]", `["2",3]`}, {"[2,3]", "null"}, {"[2,3]", "[2,3,null]"}, {`,"silencedBy":[2,3]`, ""}, {`"annotations":{"n":"x"},`, ""}, {`"key":{"a":"1"}`, `"key":{"a":1}`}, {`"key":{"a":"1"}`, `"key":null`}, {`,"key":{"a":"1"}`, ""}, {`"key":{"a":"1"}`, `"key":{"a":"1"},"x":1`},
	} {
		changed := strings.Replace(text, x[0], x[1], 1)
		if changed == text {
			t.Fatalf("there is no %s", x[0])
		}
		expectNoRead(t, core.Groups, changed)
	}
	for _, body := range []string{`{"rev":7}`, `{"groups":null,"rev":7}`, `{"groups":{},"rev":7}`, `{"groups":"[]","rev":7}`, `{"groups":[]}`, `{"rev":7,"groups":[]}`, `{"groups":[],"next":null,"rev":7}`, `{"groups":[],"next":"","rev":7}`, `{"groups":[],"rev":7,"next":"p1.2"}`} {
		expectNoRead(t, core.Groups, body)
	}
	expectRead(t, core.Groups, `{"groups":[],"rev":7}`, core.Reply{Rev: 7})
	expectRead(t, core.Groups, `{"groups":[],"next":"p1.0","rev":7}`, core.Reply{Rev: 7, Next: core.Cursor{Pin: 1}})
	expectRead(t, core.Groups, `{"groups":[{"alerts":[],"key":{}}],"rev":7}`, core.Reply{Rev: 7, Groups: []group.Group{{}}})
}

// P28.3: changes of right alerts, and of silences of an Encode.
func TestReadOfWatch(t *testing.T) {
	const from = `{"changes":[{"key":`
	const to = `}],"rev":7}`
	alertText := alert.Encode(one("1", 5, 9))
	for key, val := range map[string]string{`a/{a="1"}`: alertText, `a/{b="2"}`: alertText, `a/{}`: alertText, "s/0000000002": quietText, "s/0000000009": quietText} {
		q, _ := jtok.Quote(key)
		expectRead(t, core.Watch, from+q+`,"rev":4,"value":`+val+to, changed(mv.Change{Key: key, Val: val}))
		expectRead(t, core.Watch, from+q+`,"rev":4,"value":null`+to, changed(mv.Change{Key: key, Gone: true}))
		for _, body := range []string{`,"rev":4` + to, `,"value":` + val + to, `,"rev":null,"value":` + val + to, `,"rev":"4","value":` + val + to, `,"rev":4,"value":` + val + `,"x":1` + to, `,"value":` + val + `,"rev":4` + to, `,"rev":4,"value": ` + val + to, `,"rev":4,"value":` + val + `},null],"rev":7}`, `,"rev":4,"value":` + val + `}]}`, `,"rev":4,"value":` + val + `}],"rev":7,"x":1}`, `,"gone":false,"rev":4,"value":` + val + to} {
			expectNoRead(t, core.Watch, from+q+body)
		}
		for _, wrong := range []string{"1", "true", `"a"`, "[]", "{}", "[null]", `""`, `{"labels":{"a":"1"}}`, nested(5), strings.Replace(val, "09Z", "00Z", 1), strings.Replace(val, `"1970-01-01T00:00:09Z"`, `""`, 1), strings.TrimSuffix(val, "}") + `,"x":1}`} {
			expectNoRead(t, core.Watch, from+q+`,"rev":4,"value":`+wrong+to)
		}
	}
	// One's value is none of the other's.
	expectNoRead(t, core.Watch, from+`"a/{a=\"1\"}","rev":4,"value":`+quietText+to)
	expectNoRead(t, core.Watch, from+`"s/0000000002","rev":4,"value":`+alertText+to)
	expectNoRead(t, core.Watch, from+`"s/0000000002","rev":4,"value":`+strings.Replace(quietText, "active", "x", 1)+to)
	expectNoRead(t, core.Watch, from+`"s/0000000002","rev":4,"value":`+strings.Replace(quietText, `"id":2`, `"id":-2`, 1)+to)
	expectNoRead(t, core.Watch, from+`"s/0000000002","rev":4,"value":`+strings.Replace(quietText, `{a=\"1\"}`, `{}`, 1)+to)
	// A right change beside it does not help.
	expectNoRead(t, core.Watch, from+`"a/{a=\"1\"}","rev":4,"value":`+alertText+`},{"key":"a/{a=\"1\"}","rev":5,"value":1}],"rev":7}`)
	for _, body := range []string{`{"rev":7}`, `{"changes":null,"rev":7}`, `{"changes":{},"rev":7}`, `{"changes":[{}],"rev":7}`, `{"changes":[null],"rev":7}`, `{"changes":[[]],"rev":7}`, `{"changes":[]}`, `{"changes":[],"next":"p1.2","rev":7}`, from + `null,"rev":4,"value":null` + to, from + `1,"rev":4,"value":null` + to, `{"changes":[{"rev":4,"value":null}],"rev":7}`} {
		expectNoRead(t, core.Watch, body)
	}
	expectRead(t, core.Watch, `{"changes":[],"rev":7}`, core.Reply{Rev: 7})
}

// P28.4: what has neither an alert's nor a silence's key is told as it is.
func TestReadOfOtherChanges(t *testing.T) {
	for _, key := range []string{"", "k", "a", "a/", "a/x", "a/{a=1}", `b/{a="1"}`, "s/", "s/2", "s/00000000002", "é\n"} {
		for _, val := range []string{"1", "true", `"a"`, "[]", "{}", `{"a":[1,null]}`, alert.Encode(one("1", 5, 9)), quietText, nested(13)} {
			r := changed(mv.Change{Key: key, Val: val})
			expectRead(t, core.Watch, Body(core.Watch, r), r)
		}
		r := changed(mv.Change{Key: key, Gone: true})
		expectRead(t, core.Watch, Body(core.Watch, r), r)
	}
}

// P28.3: what the outbox tells, as it is written.
func TestReadOfOut(t *testing.T) {
	text := Body(core.Out, full())
	expectRead(t, core.Out, text, tells(core.Out, full()))
	for _, x := range [][2]string{
		{`"firing":true,`, ""}, {`"firing":true`, `"firing":1`}, {`"firing":true`, `"firing":null`}, {`"firing":true`, `"firing":"true"`}, {`"group":"{a=\"1\"}",`, ""}, {`"group":"{a=\"1\"}"`, `"group":null`}, {`"group":"{a=\"1\"}"`, `"group":{"a":"1"}`}, {`,"seq":1`, ""}, {`"seq":1`, `"seq":"1"`}, {`"seq":1`, `"seq":01`}, {`"seq":1`, `"seq":1,"x":1`}, {`"rev":1,`, ""}, {`"rev":1`, `"rev":null`}, {`,"rev":7`, ""}, {`"rev":7`, `"rev":[]`}, {`[{`, `[null,{`}, {`[{`, `[{},{`}, {`[{`, `[[],{`}, {`"notes"`, `"note"`},
	} {
		changed := strings.Replace(text, x[0], x[1], 1)
		if changed == text {
			t.Fatalf("there is no %s", x[0])
		}
		expectNoRead(t, core.Out, changed)
	}
	for _, body := range []string{`{"rev":7}`, `{"notes":null,"rev":7}`, `{"notes":{},"rev":7}`, `{"notes":[]}`, `{"notes":[],"rev":7,"x":1}`} {
		expectNoRead(t, core.Out, body)
	}
	expectRead(t, core.Out, `{"notes":[],"rev":7}`, core.Reply{Rev: 7})
}

// P28.3: a text that is another kind's.
func TestReadOfOtherKinds(t *testing.T) {
	for _, r := range replies() {
		for _, of := range kinds {
			body := Body(of, r)
			for _, kind := range kinds {
				if Body(kind, tells(kind, r)) == body {
					expectRead(t, kind, body, tells(kind, r))
				} else {
					expectNoRead(t, kind, body)
				}
			}
		}
	}
}

// P28.3: each kind's Body with a blank at each place between tokens.
func TestReadOfBlanks(t *testing.T) {
	for _, kind := range kinds[:8] {
		body := Body(kind, full())
		tokens, _, e := jtok.All(body)
		if e != api.OK {
			t.Fatalf("%s is %d", body, e)
		}
		for _, blank := range []string{" ", "\n", "\t", "\r", "  "} {
			for _, x := range tokens {
				expectNoRead(t, kind, body[:x.From]+blank+body[x.From:])
				expectNoRead(t, kind, body[:x.To]+blank+body[x.To:])
			}
		}
	}
}

// unsorted: a value's text, all keys as they stand.
func unsorted(t *testing.T, v jval.Value) string {
	t.Helper()
	var parts []string
	for i, x := range v.Items {
		part := unsorted(t, x)
		if v.Kind == jval.Object {
			q, _ := jtok.Quote(v.Keys[i])
			part = q + ":" + part
		}
		parts = append(parts, part)
	}
	switch v.Kind {
	case jval.List:
		return "[" + strings.Join(parts, ",") + "]"
	case jval.Object:
		return "{" + strings.Join(parts, ",") + "}"
	}
	return encoded(t, v)
}

// P28.3: each kind's Body, two keys next to each other in any object of it the
// other way round.
func TestReadOfOtherOrder(t *testing.T) {
	for _, kind := range kinds[:7] {
		body := Body(kind, full())
		v := value(body)
		if got := unsorted(t, v); got != body {
			t.Fatalf("it is %s, not %s", got, body)
		}
		expectNoRead(t, kind, unsorted(t, backwards(v)))
		n := 0
		var each func(v *jval.Value, then func())
		each = func(v *jval.Value, then func()) {
			for i := range v.Items {
				each(&v.Items[i], then)
			}
			for i := 0; v.Kind == jval.Object && i+1 < len(v.Keys); i++ {
				swap := func() {
					v.Keys[i], v.Keys[i+1] = v.Keys[i+1], v.Keys[i]
					v.Items[i], v.Items[i+1] = v.Items[i+1], v.Items[i]
				}
				swap()
				then()
				swap()
			}
		}
		each(&v, func() {
			n++
			expectNoRead(t, kind, unsorted(t, v))
		})
		if n == 0 || unsorted(t, v) != body {
			t.Errorf("of %d there were %d", kind, n)
		}
	}
}

// P28.3: each kind's Body with one byte changed, one more, one less; its
// beginnings.
func TestReadOfOtherBytes(t *testing.T) {
	for _, kind := range kinds[:8] {
		body := Body(kind, full())
		seen := map[bool]int{}
		for i := range len(body) {
			for _, c := range "\x00\n \"\\,:.{}[]/-0129aAeZ_\x7f" {
				if body[i] == byte(c) {
					continue
				}
				seen[expectBodyOrNoRead(t, kind, body[:i]+string(c)+body[i+1:])]++
				seen[expectBodyOrNoRead(t, kind, body[:i]+string(c)+body[i:])]++
			}
			// Of two bytes of a rune the second one may be another one.
			seen[expectBodyOrNoRead(t, kind, body[:i]+"\x80"+body[i+1:])]++
			expectNoRead(t, kind, body[:i]+"\xFF"+body[i+1:])
			expectNoRead(t, kind, body[:i]+"\xFF"+body[i:])
			seen[expectBodyOrNoRead(t, kind, body[:i]+body[i+1:])]++
			expectNoRead(t, kind, body[:i])
		}
		if seen[true] == 0 || seen[false] < seen[true]/10 {
			t.Errorf("of %d: %v", kind, seen)
		}
	}
}

// P1: texts that are very long, or very deep.
func TestReadOfMuch(t *testing.T) {
	for _, kind := range kinds {
		for _, body := range []string{strings.Repeat("[", 1000000), strings.Repeat(`{"groups":`, 100000), strings.Repeat("x", 1000000), `{"rev":` + strings.Repeat("9", 1000000) + "}", `{"groups":[` + strings.Repeat(`{},`, 100000) + `{}],"rev":7}`, `{"changes":[` + strings.Repeat(`{},`, 100000) + `{}],"rev":7}`} {
			expectNoRead(t, kind, body)
		}
	}
}

// Rules 4 and 5: what was read is seen by no later answer.
func TestReadIsNew(t *testing.T) {
	bodies := map[int]string{}
	for _, kind := range kinds {
		bodies[kind] = Body(kind, full())
		r, _ := Read(kind, bodies[kind])
		for i := range r.Groups {
			r.Groups[i].Members[0].By[0] = 99
			_ = append(r.Groups[i].Members[:1], group.Member{})
			r.Groups[i] = group.Group{}
		}
		clear(r.Entries)
		clear(r.Notes)
	}
	for _, kind := range kinds {
		expectRead(t, kind, bodies[kind], tells(kind, full()))
	}
}
