package shape

import (
	"math"
	"slices"
	"strings"
	"testing"

	"larum/alert"
	"larum/api"
	"larum/jput"
	"larum/jval"
	"larum/label"
	"larum/silence"
)

// set: the set of names and values, one behind the other.
func set(l ...string) label.Set {
	var pairs []label.Pair
	for i := 0; i+1 < len(l); i += 2 {
		pairs = append(pairs, label.Pair{Name: l[i], Value: l[i+1]})
	}
	s, e := label.Of(pairs...)
	if e != api.OK {
		panic(l)
	}
	return s
}

// one: an alert of a label, with a note.
func one(value string, starts, ends int64) alert.Alert {
	return alert.Alert{Labels: set("a", value), Notes: set("n", "x"), Starts: starts, Ends: ends}
}

func sameAlert(a, b alert.Alert) bool {
	return label.Same(a.Labels, b.Labels) && label.Same(a.Notes, b.Notes) && a.Starts == b.Starts && a.Ends == b.Ends
}

// value: the value whose text s is.
func value(s string) jval.Value {
	v, _, e := jval.Parse(s, api.MaxDepth)
	if e != api.OK {
		panic(s)
	}
	return v
}

// nested: a text of lists in one another.
func nested(depth int) string { return strings.Repeat("[", depth) + strings.Repeat("]", depth) }

// inWords has all errors of the document, and what they are called.
var inWords = map[api.Errno]string{
	api.ErrArg: "argument", api.ErrForm: "form", api.ErrDeep: "deep", api.ErrLong: "long", api.ErrNone: "none",
	api.ErrFull: "full", api.ErrStale: "stale", api.ErrGone: "gone", api.ErrState: "state", api.ErrMore: "more",
}

// P28.2: errors in words, all others other.
func TestError(t *testing.T) {
	// The chapter's example.
	if got := Error(api.ErrNone); got != `{"error":"none"}` {
		t.Errorf("it is %s", got)
	}
	for e := api.Errno(-20); e < 300; e++ {
		want, ok := inWords[e]
		if !ok {
			want = "other"
		}
		if got := Error(e); got != `{"error":"`+want+`"}` {
			t.Errorf("Error(%d) is %s", e, got)
		}
	}
	for _, e := range []api.Errno{api.OK, api.ErrNil, math.MaxInt, math.MinInt, 1 << 32, 1<<32 + 1, -1 << 40} {
		if got := Error(e); got != `{"error":"other"}` {
			t.Errorf("Error(%d) is %s", e, got)
		}
	}
}

func expectAlerts(t *testing.T, body string, now, stay int64, want ...alert.Alert) {
	t.Helper()
	l, e := Alerts(body, now, stay)
	if e != api.OK || !slices.EqualFunc(l, want, sameAlert) {
		t.Errorf("Alerts(%.80q, %d, %d) is %v, %d, not %v", body, now, stay, l, e, want)
	}
}

func expectNoAlerts(t *testing.T, body string, now, stay int64, want api.Errno) {
	t.Helper()
	if l, e := Alerts(body, now, stay); e != want || len(l) != 0 {
		t.Errorf("Alerts(%.80q, %d, %d) is %v, %d, not %d", body, now, stay, l, e, want)
	}
}

// P28.1: none, one, several, at a time.
func TestAlerts(t *testing.T) {
	expectAlerts(t, `[]`, 5, 10)
	expectAlerts(t, " [\n] ", 5, 10)
	expectAlerts(t, `[{"labels":{"a":"1"}}]`, 5, 10, alert.Alert{Labels: set("a", "1"), Starts: 5, Ends: 15})
	expectAlerts(t, `[{"labels":{"a":"1"}}, {"endsAt":"1970-01-01T00:01:00Z","labels":{"b":"2","a":"é"},"annotations":{"n":"x"},"startsAt":"1970-01-01T00:00:07Z"},{"labels":{"a":"1"}}]`, 5, 10,
		alert.Alert{Labels: set("a", "1"), Starts: 5, Ends: 15}, alert.Alert{Labels: set("a", "é", "b", "2"), Notes: set("n", "x"), Starts: 7, Ends: 60}, alert.Alert{Labels: set("a", "1"), Starts: 5, Ends: 15})
	expectAlerts(t, `[{"labels":{"a":"1"}}]`, math.MinInt64, math.MaxInt64, alert.Alert{Labels: set("a", "1"), Starts: 0, Ends: api.MaxTime})
	expectAlerts(t, `[{"labels":{"a":"1"},"startsAt":"1970-01-01T00:00:07Z"}]`, 5, 10, alert.Alert{Labels: set("a", "1"), Starts: 7, Ends: 17})
	expectAlerts(t, `[{"labels":{"a":"1"},"startsAt":"1970-01-01T00:00:07Z"}]`, 20, 10, alert.Alert{Labels: set("a", "1"), Starts: 7, Ends: 30})
	many := slices.Repeat([]alert.Alert{{Labels: set("a", "1"), Starts: 5, Ends: 15}}, 10000)
	expectAlerts(t, "["+strings.Repeat(`{"labels":{"a":"1"}},`, 9999)+`{"labels":{"a":"1"}}]`, 5, 10, many...)
}

// P28.1: the error of the text, ahead of what is told of it.
func TestAlertsOfWrongTexts(t *testing.T) {
	for _, body := range []string{"", " ", "[", "]", "[[", "[}", "[,]", "[{}", "[{},]", "[{}]x", "[]]", "x", "nul", "[1e400]", "[1.5]", "[01]", "['a']", "[\"\xFF\"]", "\xFF", "\uFEFF[]", `[{"labels":{"a":"1","a":"1"}}]`, `[{},{}`, `{"a":}`, strings.Repeat("[{}", 3)} {
		expectNoAlerts(t, body, 5, 10, api.ErrForm)
	}
	for _, body := range []string{"[99999999999999999999]", "99999999999999999999", `{"a":-9223372036854775809}`, `[{},9223372036854775808`, `[{"labels":{"a":9223372036854775808}}]`} {
		expectNoAlerts(t, body, 5, 10, api.ErrLong)
	}
	for _, body := range []string{nested(17), nested(1000), strings.Repeat("[", 100000), `[{}` + "," + nested(16) + `]`, strings.Repeat(`{"a":`, 17), `[{"labels":` + nested(15) + `}]`} {
		expectNoAlerts(t, body, 5, 10, api.ErrDeep)
	}
	// The first token that does not fit counts.
	expectNoAlerts(t, nested(16)+"[", 5, 10, api.ErrForm)
	expectNoAlerts(t, "[99999999999999999999,"+nested(20), 5, 10, api.ErrLong)
	expectNoAlerts(t, "["+nested(20)+",99999999999999999999]", 5, 10, api.ErrDeep)
	// The text's error stands ahead of an Item's.
	expectNoAlerts(t, "[{},"+nested(16)+"]", 5, 10, api.ErrDeep)
	expectNoAlerts(t, "[{},99999999999999999999]", 5, 10, api.ErrLong)
}

// P28.1: what is no list, whatever else it is.
func TestAlertsOfNoList(t *testing.T) {
	for _, body := range []string{"null", "true", "false", "0", "7", `"a"`, `"[]"`, "{}", `{"a":[]}`, `{"labels":{"a":"1"}}`, `{"alerts":[{"labels":{"a":"1"}}]}`, strings.Repeat(`{"a":`, 16) + "1" + strings.Repeat("}", 16)} {
		expectNoAlerts(t, body, 5, 10, api.ErrForm)
	}
}

// P28.1: the first error of one of the Items.
func TestAlertsOfWrongItems(t *testing.T) {
	const (
		right = `{"labels":{"a":"1"}}`
		arg   = `{}`
		late  = `{"labels":{"a":"1"},"endsAt":"1970-01-01T00:00:05Z"}`
	)
	forms := []string{"null", "1", `"a"`, "true", "[]", "[" + right + "]", `{"x":1}`, `{"labels":1}`, `{"labels":{"a":""}}`, `{"labels":{"1":"a"}}`, `{"labels":{"a":"1"},"endsAt":""}`, `{"labels":{"a":"1"},"startsAt":5}`, nested(15)}
	for _, wrong := range []string{arg, late, `{"labels":{}}`, `{"annotations":{"a":"1"}}`} {
		expectNoAlerts(t, "["+wrong+"]", 5, 10, api.ErrArg)
		expectNoAlerts(t, "["+right+","+wrong+"]", 5, 10, api.ErrArg)
		expectNoAlerts(t, "["+wrong+","+right+"]", 5, 10, api.ErrArg)
		for _, form := range forms {
			expectNoAlerts(t, "["+right+","+wrong+","+form+"]", 5, 10, api.ErrArg)
			expectNoAlerts(t, "["+right+","+form+","+wrong+"]", 5, 10, api.ErrForm)
		}
	}
	for _, form := range forms {
		expectNoAlerts(t, "["+form+"]", 5, 10, api.ErrForm)
		expectNoAlerts(t, "["+right+","+form+"]", 5, 10, api.ErrForm)
	}
	expectNoAlerts(t, "["+right+"]", 5, 0, api.ErrArg)
	expectNoAlerts(t, "["+right+"]", 5, math.MinInt64, api.ErrArg)
	expectNoAlerts(t, "["+right+"]", math.MaxInt64, math.MaxInt64, api.ErrArg)
}

func expectNoSilence(t *testing.T, body string, now int64, want api.Errno) {
	t.Helper()
	if s, e := Silence(body, now); e != want || s != (silence.Silence{}) {
		t.Errorf("Silence(%.80q, %d) is %+v, %d, not %d", body, now, s, e, want)
	}
}

// P28.1: a silence as it is said, at a time.
func TestSilence(t *testing.T) {
	for body, want := range map[string]silence.Silence{
		`{"matchers":"{a=\"1\"}","endsAt":"1970-01-01T00:00:09Z"}`:                                                                                {Match: `{a="1"}`, Starts: 3, Ends: 9, State: silence.Active},
		"\n{ \"endsAt\" : \"1970-01-01T00:00:09Z\" , \"matchers\" : \" { a = \\\"1\\\" } \" }\t":                                                  {Match: `{a="1"}`, Starts: 3, Ends: 9, State: silence.Active},
		`{"matchers":"{a=~\"x.*\"}","startsAt":"1970-01-01T00:00:07Z","endsAt":"1970-01-01T00:00:09Z","createdBy":"é","comment":"\u0001"}`:        {Match: `{a=~"x.*"}`, Starts: 7, Ends: 9, By: "é", Note: "\x01", State: silence.Pending},
		`{"matchers":"{a=\"1\",b!=\"2\"}","startsAt":"1970-01-01T00:00:00Z","endsAt":"1970-01-01T00:00:03Z"}`:                                     {Match: `{a="1",b!="2"}`, Ends: 3, State: silence.Expired},
		`{"comment":"","createdBy":"","endsAt":"1970-01-01T00:00:03Z","matchers":"{a=\"\"}"}`:                                                     {Match: `{a=""}`, Starts: 3, Ends: 3, State: silence.Expired},
		`{"matchers":"{` + strings.Repeat(`a=\"1\",`, 32) + `}","endsAt":"1970-01-01T00:00:09Z","comment":"` + strings.Repeat("x", 100000) + `"}`: {Match: "{" + strings.Repeat(`a="1",`, 31) + `a="1"}`, Starts: 3, Ends: 9, Note: strings.Repeat("x", 100000), State: silence.Active},
	} {
		if s, e := Silence(body, 3); e != api.OK || s != want {
			t.Errorf("Silence(%.80q) is %+v, %d, not %+v", body, s, e, want)
		}
	}
	for now, want := range map[int64]silence.Silence{math.MinInt64: {Match: `{a="1"}`, Ends: 9, State: silence.Pending}, 0: {Match: `{a="1"}`, Ends: 9, State: silence.Active}, 9: {Match: `{a="1"}`, Starts: 9, Ends: 9, State: silence.Expired}} {
		if s, e := Silence(`{"matchers":"{a=\"1\"}","endsAt":"1970-01-01T00:00:09Z"}`, now); e != api.OK || s != want {
			t.Errorf("at %d it is %+v, %d, not %+v", now, s, e, want)
		}
	}
}

// P28.1: the error of the text, and each of what it says.
func TestNoSilence(t *testing.T) {
	const (
		m = `"matchers":"{a=\"1\"}"`
		e = `"endsAt":"1970-01-01T00:00:09Z"`
	)
	right := "{" + m + "," + e + "}"
	if _, no := Silence(right, 3); no != api.OK {
		t.Fatalf("it is %d", no)
	}
	for i := range len(right) {
		expectNoSilence(t, right[:i], 3, api.ErrForm)
	}
	for _, body := range []string{" ", right + "x", right + right, "x" + right, "[" + right + "]", "null", "7", "true", `"a"`, "[]", "{}", "{" + m + "}", "{" + e + "}", "{" + m + "," + e + "," + e + "}", "{" + m + "," + e + `,"id":1}`, "{" + m + "," + e + `,"state":"active"}`, "{" + m + "," + e + `,"comment":1}`, "{" + m + "," + e + `,"comment":null}`, "{" + m + "," + e + `,"createdBy":` + nested(15) + "}", "{" + m + "," + e + `,"startsAt":""}`, "{" + m + `,"endsAt":"9999-01-01T00:00:00Z"}`, "{" + m + `,"endsAt":9}`, `{"matchers":"",` + e + "}", `{"matchers":["{}"],` + e + "}", `{"matchers":"{a=~\"(\"}",` + e + "}", "{" + m + "," + e + `,"comment":1.5}`, "{" + m + "," + e + ",\"comment\":\"\xFF\"}"} {
		expectNoSilence(t, body, 3, api.ErrForm)
	}
	expectNoSilence(t, "{"+m+","+e+`,"comment":99999999999999999999}`, 3, api.ErrLong)
	expectNoSilence(t, "99999999999999999999", 3, api.ErrLong)
	expectNoSilence(t, `{"matchers":"{a=~\"((a{16}){16}){2}\"}",`+e+"}", 3, api.ErrLong)
	expectNoSilence(t, "{"+m+","+e+`,"comment":`+nested(16)+"}", 3, api.ErrDeep)
	expectNoSilence(t, nested(17), 3, api.ErrDeep)
	expectNoSilence(t, `{"matchers":"{`+strings.Repeat(`a=\"1\",`, 33)+`}",`+e+"}", 3, api.ErrFull)
	// One that is read, but may not be.
	expectNoSilence(t, `{"matchers":"{}",`+e+"}", 3, api.ErrArg)
	expectNoSilence(t, "{"+m+","+e+`,"startsAt":"1970-01-01T00:00:10Z"}`, 3, api.ErrArg)
	expectNoSilence(t, right, 10, api.ErrArg)
	expectNoSilence(t, right, math.MaxInt64, api.ErrArg)
}

// encoded: a value's text.
func encoded(t *testing.T, v jval.Value) string {
	t.Helper()
	s, e := jput.Encode(v)
	if e != api.OK {
		t.Errorf("%+v can't be written: %d", v, e)
	}
	return s
}
