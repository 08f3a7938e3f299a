package shape

import (
	"bytes"
	"encoding/json"
	"maps"
	"math"
	"math/rand"
	"regexp"
	"slices"
	"strings"
	"testing"
	"time"

	"larum/alert"
	"larum/api"
	"larum/clog"
	"larum/core"
	"larum/etag"
	"larum/group"
	"larum/jval"
	"larum/label"
	"larum/match"
	"larum/mv"
	"larum/note"
	"larum/silence"
)

// pick: one of some, by chance.
func pick[T any](r *rand.Rand, l ...T) T { return l[r.Intn(len(l))] }

// jsonObject is an object, as Go's library has them.
type jsonObject = map[string]any

// byLibrary: a value written by Go's library, which puts keys by their bytes.
func byLibrary(t *testing.T, v any) string {
	t.Helper()
	var b bytes.Buffer
	e := json.NewEncoder(&b)
	e.SetEscapeHTML(false)
	if err := e.Encode(v); err != nil {
		t.Fatal(err)
	}
	return strings.TrimSuffix(b.String(), "\n")
}

// printed: a time's text; nothing, if it is none.
func printed(sec int64) string {
	if sec < 0 || sec > 1<<37 {
		return ""
	}
	return time.Unix(sec, 0).UTC().Format("2006-01-02T15:04:05Z")
}

func setBy(s label.Set) jsonObject {
	v := jsonObject{}
	for _, p := range s.Pairs() {
		v[p.Name] = p.Value
	}
	return v
}

// bodyBy: what a kind tells, by the chapter's words.
func bodyBy(t *testing.T, kind int, r core.Reply) string {
	t.Helper()
	v := jsonObject{"rev": r.Rev}
	switch kind {
	case core.Create, core.Read, core.Update, core.Expire:
		s := r.Silence
		v = jsonObject{"id": s.ID, "matchers": s.Match, "startsAt": printed(s.Starts), "endsAt": printed(s.Ends), "createdBy": s.By, "comment": s.Note, "state": s.State}
	case core.Groups:
		groups := []any{}
		for _, g := range r.Groups {
			alerts := []any{}
			for _, m := range g.Members {
				alerts = append(alerts, jsonObject{"labels": setBy(m.Alert.Labels), "annotations": setBy(m.Alert.Notes), "startsAt": printed(m.Alert.Starts), "endsAt": printed(m.Alert.Ends), "silencedBy": append([]int64{}, m.By...)})
			}
			groups = append(groups, jsonObject{"key": setBy(g.Key), "alerts": alerts})
		}
		v["groups"] = groups
		if r.Next.Pin > 0 {
			v["next"] = "p" + byLibrary(t, r.Next.Pin) + "." + byLibrary(t, r.Next.At)
		}
	case core.Watch:
		changes := []any{}
		for _, x := range r.Entries {
			var to any
			if d := json.NewDecoder(strings.NewReader(x.Change.Val)); !x.Change.Gone {
				d.UseNumber()
				if err := d.Decode(&to); err != nil {
					t.Fatal(err)
				}
			}
			changes = append(changes, jsonObject{"rev": x.Rev, "key": x.Change.Key, "value": to})
		}
		v["changes"] = changes
	case core.Out:
		notes := []any{}
		for _, x := range r.Notes {
			notes = append(notes, jsonObject{"seq": x.Seq, "rev": x.Rev, "group": x.Group, "firing": x.Firing})
		}
		v["notes"] = notes
	}
	return byLibrary(t, v)
}

var texts = []string{"", "a", "é", "😀", "\n\t\r\b\f", "\x00\x01\x1f", "\"\\/", "<&>", "\x7f", "{a=\"1\"}"}

var numbers = []int64{0, 1, -1, 7, 1 << 31, 1 << 53, math.MaxInt64, math.MinInt64}

// anySet: one of few labels by chance.
func anySet(r *rand.Rand) label.Set {
	var l []string
	for _, name := range []string{"a", "b", "B", "_"} {
		if r.Intn(2) == 0 {
			l = append(l, name, pick(r, texts[1:]...))
		}
	}
	return set(l...)
}

func anyGroup(r *rand.Rand, right bool) group.Group {
	g := group.Group{Key: anySet(r)}
	for range r.Intn(4) {
		a := alert.Alert{Labels: anySet(r), Notes: anySet(r), Starts: pick[int64](r, 0, 5, api.MaxTime-1), Ends: pick[int64](r, 6, 9, api.MaxTime)}
		if !right {
			a.Starts, a.Ends = pick(r, numbers...), pick(r, numbers...)
		} else if alert.Right(a) != api.OK {
			a = one("1", 5, 9)
		}
		m := group.Member{Alert: a}
		for range r.Intn(3) {
			m.By = append(m.By, pick(r, numbers...))
		}
		g.Members = append(g.Members, m)
	}
	return g
}

func anySilence(r *rand.Rand, right bool) silence.Silence {
	if !right {
		return silence.Silence{ID: pick(r, numbers...), Match: pick(r, texts...), Starts: pick(r, numbers...), Ends: pick(r, numbers...), By: pick(r, texts...), Note: pick(r, texts...), State: pick(r, texts...)}
	}
	from := r.Int63n(1 << 37)
	return silence.Silence{ID: r.Int63n(1 << 40), Match: pick(r, `{a="1"}`, `{a!="é",b=~"x.*"}`), Starts: from, Ends: from + r.Int63n(1<<37-from+1), By: pick(r, texts...), Note: pick(r, texts...), State: pick(r, silence.Pending, silence.Active, silence.Expired)}
}

func anyEntry(r *rand.Rand, right bool) clog.Entry {
	x := clog.Entry{Rev: pick(r, numbers...)}
	a := one(pick(r, texts[1:]...), r.Int63n(99), 99+r.Int63n(99))
	x.Change.Key, x.Change.Val = alert.Key(a), alert.Encode(a)
	if r.Intn(2) == 0 {
		s := anySilence(r, true)
		x.Change.Key, x.Change.Val = silence.Key(s.ID%10000), silence.Encode(s)
	}
	switch r.Intn(4) {
	case 0:
		x.Change.Gone, x.Change.Val = true, ""
	case 1:
		if !right {
			x.Change.Key, x.Change.Val = pick(r, texts...), pick(r, "1", "{}", "[]", "-0", "null", ` [ "a" , {"b":[],"a":-1} ] `)
		}
	}
	return x
}

// anyReply: a reply by chance; of right alerts and silences, or of any.
func anyReply(r *rand.Rand, right bool) core.Reply {
	x := core.Reply{Rev: pick(r, numbers...), Silence: anySilence(r, right)}
	if r.Intn(2) == 0 {
		x.Next = core.Cursor{Pin: pick(r, numbers...), At: int(pick(r, 0, 1, 14, math.MaxInt64))}
	}
	for range r.Intn(4) {
		x.Groups = append(x.Groups, anyGroup(r, right))
		x.Entries = append(x.Entries, anyEntry(r, right))
		x.Notes = append(x.Notes, note.Entry{Seq: pick(r, numbers...), Rev: pick(r, numbers...), Group: pick(r, texts...), Firing: r.Intn(2) == 0})
	}
	return x
}

// P28.2, P28.3, P28.4: replies by chance, against the chapter's words.
func TestBodyByChance(t *testing.T) {
	r := rand.New(rand.NewSource(281))
	for i := range 4000 {
		right := i%2 == 0
		x := anyReply(r, right)
		x.Code, x.Tag = api.Errno(r.Intn(12)), etag.Of(r.Int63())
		for _, kind := range kinds[:9] {
			body := Body(kind, x)
			// That -0 is 0 Go's library does not say.
			if want := strings.ReplaceAll(bodyBy(t, kind, x), `"value":-0`, `"value":0`); body != want {
				t.Fatalf("Body of %d is %s, not %s", kind, body, want)
			}
			if right {
				expectRead(t, kind, body, tells(kind, x))
			} else {
				expectBodyOrNoRead(t, kind, body)
			}
		}
		if t.Failed() {
			return
		}
	}
}

var nameText = regexp.MustCompile(`^[A-Za-z_][A-Za-z0-9_]*$`)

// isSet: is it an object of labels, by the chapters' words?
func isSet(v any) bool {
	o, ok := v.(jsonObject)
	for name, x := range o {
		text, is := x.(string)
		ok = ok && is && text != "" && nameText.MatchString(name)
	}
	return ok
}

// timeOf: the time whose text v is; is it one?
func timeOf(v any) (int64, bool) {
	s, _ := v.(string)
	x, err := time.Parse("2006-01-02T15:04:05Z", s)
	return x.Unix(), err == nil && len(s) == 20 && x.Unix() >= 0 && x.Unix() <= 1<<37
}

// isMember: is it a Member of a group as JSON, of a right alert?
func isMember(v any) bool {
	o, _ := v.(jsonObject)
	by, ok := o["silencedBy"].([]any)
	for _, x := range by {
		_, is := x.(json.Number)
		ok = ok && is
	}
	starts, isStart := timeOf(o["startsAt"])
	ends, isEnd := timeOf(o["endsAt"])
	labels, _ := o["labels"].(jsonObject)
	return ok && len(o) == 5 && isSet(o["labels"]) && len(labels) > 0 && isSet(o["annotations"]) && isStart && isEnd && starts < ends
}

// isGroup: is it a group as JSON of right alerts?
func isGroup(v any) bool {
	o, _ := v.(jsonObject)
	l, ok := o["alerts"].([]any)
	for _, x := range l {
		ok = ok && isMember(x)
	}
	return ok && len(o) == 2 && isSet(o["key"])
}

// spoiled: v, of which one part at most is another one.
func spoiled(r *rand.Rand, v jval.Value) jval.Value {
	others := []jval.Value{{}, jval.OfNumber(3), jval.OfText("1970-01-01T00:00:07Z"), jval.OfText("x"), jval.OfText(""), jval.OfList(), jval.OfList(jval.OfNumber(4)), {Kind: jval.Object}, value(`{"a":"1"}`), value(memberText), value(`{"a":1}`)}
	if r.Intn(6) == 0 {
		return pick(r, others...)
	}
	if len(v.Items) == 0 {
		return v
	}
	i := r.Intn(len(v.Items))
	v.Items, v.Keys = slices.Clone(v.Items), slices.Clone(v.Keys)
	switch r.Intn(12) {
	case 0:
		v.Items = slices.Delete(v.Items, i, i+1)
		if v.Kind == jval.Object {
			v.Keys = slices.Delete(v.Keys, i, i+1)
		}
	case 1:
		v.Items = append(v.Items, pick(r, append(others, v.Items...)...))
		if v.Kind == jval.Object {
			v.Keys = append(v.Keys, pick(r, "x", "b9", "", "9", "silencedBy2"))
		}
	default:
		v.Items[i] = spoiled(r, v.Items[i])
	}
	return v
}

// P28.2: groups by chance, one part spoiled or none, against the chapter's
// words.
func TestOfGroupByChance(t *testing.T) {
	r := rand.New(rand.NewSource(282))
	seen := map[bool]int{}
	for range 40000 {
		g := anyGroup(r, r.Intn(4) > 0)
		v := spoiled(r, Group(g))
		if r.Intn(2) == 0 {
			v = backwards(v)
		}
		text := encoded(t, v)
		var x any
		d := json.NewDecoder(strings.NewReader(text))
		d.UseNumber()
		if err := d.Decode(&x); err != nil {
			t.Fatal(err)
		}
		ok := isGroup(x)
		got, e := OfGroup(v)
		if ok != (e == api.OK) || !ok && (e != api.ErrForm || got.Key.Len() > 0 || len(got.Members) > 0) {
			t.Fatalf("OfGroup of %s is %v, %d, not %v", text, got, e, ok)
		}
		if ok && encoded(t, Group(got)) != text {
			t.Fatalf("OfGroup of %s is %v", text, got)
		}
		seen[ok]++
	}
	if seen[true] < 1000 || seen[false] < 1000 {
		t.Errorf("seen: %v", seen)
	}
}

// P28.3, P28.4: what a machine tells, by chance.
func TestMachineByChance(t *testing.T) {
	r := rand.New(rand.NewSource(283))
	seen := map[int]int{}
	for range 60 {
		m := core.New(core.Config{Keys: 20, Versions: 200, Log: 50, Pins: 4, Out: 50, Hold: 20, By: []string{"a"}}, 5)
		var next core.Cursor
		for range 80 {
			o := core.Op{Kind: 1 + r.Intn(10), ID: 1 + r.Int63n(4), Have: etag.List{Any: true}, By: []string{"a"}, N: 1, T: r.Int63n(4), Rev: max(m.Rev()-r.Int63n(9), 0)}
			switch o.Kind {
			case core.Post:
				o.Alerts, _ = Alerts(`[{"labels":{"a":"`+pick(r, "1", "é", `\"`)+`","b":"`+pick(r, "1", "2")+`"},"annotations":{"n":"x"}},{"labels":{"a":"3"}}]`, m.Now(), 1+r.Int63n(9))
			case core.Create, core.Update:
				o.Silence, _ = Silence(`{"matchers":"{a=\"`+pick(r, "1", "é")+`\"}","startsAt":"`+printed(m.Now()+r.Int63n(3))+`","endsAt":"`+printed(m.Now()+r.Int63n(9)+2)+`","comment":"\u0001"}`, m.Now())
			case core.Groups:
				o.Cursor = pick(r, core.Cursor{}, next)
			case core.Watch:
				o.Filter = pick(r, nil, filter(`{a="1"}`))
			}
			reply := m.Do(o)
			if reply.Code != api.OK {
				continue
			}
			if o.Kind == core.Groups {
				next = reply.Next
			}
			seen[o.Kind]++
			expectRead(t, o.Kind, Body(o.Kind, reply), tells(o.Kind, reply))
		}
	}
	for kind := core.Post; kind <= core.Tick; kind++ {
		if seen[kind] < 20 {
			t.Errorf("%d was seen %d times of %v", kind, seen[kind], slices.Sorted(maps.Keys(seen)))
		}
	}
}

func filter(s string) *match.List {
	l, e := match.Parse(s)
	if e != api.OK {
		panic(s)
	}
	return l
}

// P28.3: changes by chance, one part of their text another one.
func TestWatchByChance(t *testing.T) {
	r := rand.New(rand.NewSource(284))
	seen := map[bool]int{}
	for range 20000 {
		x := anyEntry(r, true)
		if x.Change.Gone {
			continue
		}
		v := spoiled(r, value(x.Change.Val))
		text := encoded(t, v)
		body := Body(core.Watch, core.Reply{Entries: []clog.Entry{{Rev: x.Rev, Change: mv.Change{Key: x.Change.Key, Val: text}}}})
		_, noAlert := alert.Decode(text)
		_, noSilence := silence.Decode(text)
		ok := text == "null" || x.Change.Key[0] == 'a' && noAlert == api.OK || x.Change.Key[0] == 's' && noSilence == api.OK
		if got := expectBodyOrNoRead(t, core.Watch, body); got != ok {
			t.Fatalf("Read of %s is %v", body, got)
		}
		seen[ok]++
	}
	if seen[true] < 1000 || seen[false] < 1000 {
		t.Errorf("seen: %v", seen)
	}
}
