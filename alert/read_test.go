package alert

import (
	"errors"
	"fmt"
	"math"
	"slices"
	"strings"
	"testing"

	"larum/api"
	"larum/clock"
	"larum/jval"
	"larum/label"
)

func expectDecode(t *testing.T, s string, want Alert) {
	t.Helper()
	got, e := Decode(s)
	if e != api.OK {
		t.Errorf("Decode(%.200q) is %d", s, e)
	}
	expectAlert(t, got, want)
}

func expectNoDecode(t *testing.T, s string, want api.Errno) {
	t.Helper()
	if got, e := Decode(s); !same(got, Alert{}) || e != want {
		t.Errorf("Decode(%.200q) is %+v, %d, not %d alone", s, got, e, want)
	}
}

// value: the value whose text s is.
func value(t *testing.T, s string) jval.Value {
	t.Helper()
	v, at, e := jval.Parse(s, api.MaxDepth)
	if e != api.OK {
		t.Fatalf("Parse(%q) is %d at %d", s, e, at)
	}
	return v
}

// expectRead: at 50, of a stay of 100.
func expectRead(t *testing.T, s string, want Alert) {
	t.Helper()
	expectReadAt(t, s, 50, 100, want)
}

func expectReadAt(t *testing.T, s string, now, stay int64, want Alert) {
	t.Helper()
	got, e := Read(value(t, s), now, stay)
	if e != api.OK {
		t.Errorf("Read(%s, %d, %d) is %d", s, now, stay, e)
	}
	expectAlert(t, got, want)
}

func expectNoRead(t *testing.T, s string, want api.Errno) {
	t.Helper()
	expectNoReadAt(t, s, 50, 100, want)
}

func expectNoReadAt(t *testing.T, s string, now, stay int64, want api.Errno) {
	t.Helper()
	expectNoReadOf(t, value(t, s), now, stay, want)
}

func expectNoReadOf(t *testing.T, v jval.Value, now, stay int64, want api.Errno) {
	t.Helper()
	if got, e := Read(v, now, stay); !same(got, Alert{}) || e != want {
		t.Errorf("Read(%.300q, %d, %d) is %+v, %d, not %d alone", fmt.Sprint(v), now, stay, got, e, want)
	}
}

func expectSetOf(t *testing.T, v jval.Value, want label.Set) {
	t.Helper()
	if got, e := SetOf(v); !label.Same(got, want) || e != api.OK {
		t.Errorf("SetOf(%+v) is %s, %d, not %s", v, got, e, want)
	}
}

func expectNoSetOf(t *testing.T, v jval.Value, want api.Errno) {
	t.Helper()
	if got, e := SetOf(v); got.Len() != 0 || e != want {
		t.Errorf("SetOf(%.300q) is %s, %d, not %d alone", fmt.Sprint(v), got, e, want)
	}
}

// object: one of keys and items, one behind the other, whatever they are.
func object(l ...any) jval.Value {
	v := jval.Value{Kind: jval.Object}
	for i := 0; i < len(l); i += 2 {
		v.Keys = append(v.Keys, l[i].(string))
		v.Items = append(v.Items, l[i+1].(jval.Value))
	}
	return v
}

// noObjects are no objects, though they have what an object has.
func noObjects() []jval.Value {
	l := []jval.Value{{}, jval.OfBool(true), jval.OfBool(false), jval.OfNumber(5), jval.OfText(""), jval.OfText("{}"), jval.OfText(`{"a":"1"}`), jval.OfList(), jval.OfList(texts("a", "1")), jval.OfList(jval.OfText("a"), jval.OfText("1"))}
	for _, kind := range []int{jval.Null, jval.Bool, jval.Number, jval.Text, jval.List, -1, 6, math.MinInt, math.MaxInt} {
		v := texts("a", "1")
		v.Kind = kind
		l = append(l, v)
	}
	return l
}

// wrongNames and wrongValues are those of no label (14).
var (
	wrongNames  = []string{"", "1", "0a", "a-b", "a b", " a", "é", "a\x80", "a=", `"a"`}
	wrongValues = []string{"", "\x80", "\xFF", "a\xC3", "\xED\xA0\x80", "\xF4\x90\x80\x80"}
)

// wrongSets are no objects of a set's pairs: those whose error is ErrForm.
func wrongSets() []jval.Value {
	l := noObjects()
	for _, x := range []jval.Value{{}, jval.OfBool(true), jval.OfNumber(1), jval.OfList(), jval.OfList(jval.OfText("1")), texts(), texts("a", "1"), {Kind: jval.Number, Text: "1"}, {Kind: 9, Text: "1"}, {Kind: -1, Text: "1"}} {
		l = append(l, object("a", x), object("a", jval.OfText("1"), "b", x), object("b", x, "a", jval.OfText("1")), object("a", jval.OfText("1"), "a", x), object("a", x, "1", jval.OfText("1")))
	}
	for _, name := range wrongNames {
		l = append(l, texts(name, "1"), texts("a", "1", name, "1"), texts(name, "1", "a", "1"), texts("a", "1", "a", "2", name, "1"))
	}
	for _, val := range wrongValues {
		l = append(l, texts("a", val), texts("a", "1", "b", val), texts("b", val, "a", "1"), texts("a", "1", "a", val))
	}
	// By hand: not as many Items as Keys.
	return append(l,
		jval.Value{Kind: jval.Object, Keys: []string{"a"}},
		jval.Value{Kind: jval.Object, Items: []jval.Value{jval.OfText("1")}},
		jval.Value{Kind: jval.Object, Keys: []string{"a", "b"}, Items: []jval.Value{jval.OfText("1")}},
		jval.Value{Kind: jval.Object, Keys: []string{"a"}, Items: []jval.Value{jval.OfText("1"), jval.OfText("2")}})
}

// twice are those of which a name stands twice: their error is ErrState.
func twice() []jval.Value {
	return []jval.Value{texts("a", "1", "a", "1"), texts("a", "1", "a", "2"), texts("a", "1", "b", "2", "a", "3"), texts("c", "1", "b", "2", "b", "3")}
}

// P22.2: the set of an object's pairs.
func TestSetOf(t *testing.T) {
	expectSetOf(t, texts(), label.Set{})
	expectSetOf(t, jval.Value{Kind: jval.Object, Keys: []string{}, Items: []jval.Value{}}, label.Set{})
	expectSetOf(t, texts("a", "1"), set(t, "a", "1"))
	expectSetOf(t, texts("b", "2", "a", "1", "B", "3"), set(t, "B", "3", "a", "1", "b", "2"))
	expectSetOf(t, texts("a", "1", "b", "1"), set(t, "a", "1", "b", "1"))
	expectSetOf(t, texts("_", "é\n\x00", "a_9", `"\`), set(t, "_", "é\n\x00", "a_9", `"\`))
	long := strings.Repeat("x", 100000)
	expectSetOf(t, texts(long, long, "a", "1"), set(t, long, long, "a", "1"))
	// What a kind does not have counts for nothing.
	v := object("a", jval.Value{Kind: jval.Text, Text: "1", N: 5, Is: true, Keys: []string{"x"}, Items: []jval.Value{{Kind: 99}}})
	v.N, v.Is, v.Text = 7, true, "\xFF"
	expectSetOf(t, v, set(t, "a", "1"))

	for _, v := range wrongSets() {
		expectNoSetOf(t, v, api.ErrForm)
	}
	for _, v := range twice() {
		expectNoSetOf(t, v, api.ErrState)
	}
}

// P22.2: a set has as many pairs as its object.
func TestSetOfMany(t *testing.T) {
	var l []string
	for i := range 20000 {
		l = append(l, fmt.Sprintf("a%d", (i*7919)%20000), fmt.Sprint(i))
	}
	v := texts(l...)
	expectSetOf(t, v, set(t, l...))
	expectRead(t, `{"labels":`+written(t, v)+`}`, Alert{set(t, l...), label.Set{}, 50, 150})
	expectRead(t, `{"annotations":`+written(t, v)+`,"labels":{"a":"1"}}`, Alert{set(t, "a", "1"), set(t, l...), 50, 150})
	v.Keys[19999] = v.Keys[0]
	expectNoSetOf(t, v, api.ErrState)
	v.Items[10000] = jval.OfNumber(1)
	expectNoSetOf(t, v, api.ErrForm)
}

// written: an object of texts as JSON.
func written(t *testing.T, v jval.Value) string {
	t.Helper()
	var b strings.Builder
	for i, key := range v.Keys {
		fmt.Fprintf(&b, ",%q:%q", key, v.Items[i].Text)
	}
	return "{" + strings.TrimPrefix(b.String(), ",") + "}"
}

// Rules 4, 5: what is handed in is neither changed nor kept.
func TestSetOfKeepsNothing(t *testing.T) {
	v := texts("b", "2", "a", "1")
	s, _ := SetOf(v)
	o := object("labels", v)
	a, _ := Read(o, 5, 5)
	if !slices.Equal(v.Keys, []string{"b", "a"}) || v.Items[0].Text != "2" || v.Items[1].Text != "1" {
		t.Errorf("it became %+v", v)
	}
	v.Keys[0], v.Items[0] = "z", jval.OfText("9")
	v.Keys[1], v.Items[1] = "y", jval.OfText("8")
	if want := set(t, "a", "1", "b", "2"); !label.Same(s, want) || !label.Same(a.Labels, want) {
		t.Errorf("the set became %s, %s", s, a.Labels)
	}
}

// P22.2: with all keys, and without each of them.
func TestRead(t *testing.T) {
	labels, notes := set(t, "a", "1", "b", "2"), set(t, "n", "x y")
	const (
		l = `"labels":{"b":"2","a":"1"}`
		n = `"annotations":{"n":"x y"}`
		s = `"startsAt":"1970-01-01T00:01:00Z"`
		e = `"endsAt":"1970-01-01T00:02:00Z"`
	)
	for text, want := range map[string]Alert{
		l + "," + n + "," + s + "," + e: {labels, notes, 60, 120},
		e + "," + s + "," + n + "," + l: {labels, notes, 60, 120},
		l + "," + s + "," + e:           {labels, label.Set{}, 60, 120},
		l + "," + n + "," + e:           {labels, notes, 50, 120},
		l + "," + n + "," + s:           {labels, notes, 60, 160},
		l + "," + n:                     {labels, notes, 50, 150},
		l + "," + s:                     {labels, label.Set{}, 60, 160},
		l + "," + e:                     {labels, label.Set{}, 50, 120},
		l:                               {labels, label.Set{}, 50, 150},
		l + `,"annotations":{}`:         {labels, label.Set{}, 50, 150},
	} {
		expectRead(t, "{"+text+"}", want)
		expectRead(t, "\n { "+strings.ReplaceAll(text, ",", "\t,\r\n ")+" } ", want)
	}
	for _, text := range []string{"", n, s, e, n + "," + s, s + "," + e, n + "," + s + "," + e, `"labels":{}`, `"labels":{},` + n + "," + s + "," + e} {
		expectNoRead(t, "{"+text+"}", api.ErrArg)
	}
}

// P22.2: what is no object, or has a key that an alert has not.
func TestReadOfOthers(t *testing.T) {
	for _, v := range noObjects() {
		expectNoReadOf(t, v, 50, 100, api.ErrForm)
	}
	right := object("labels", texts("a", "1"))
	for _, kind := range []int{jval.Null, jval.List, -1, 6} {
		v := right
		v.Kind = kind
		expectNoReadOf(t, v, 50, 100, api.ErrForm)
	}
	for _, key := range []string{"", "x", "Labels", "label", "labels ", " labels", "labels\x00", "startsat", "StartsAt", "starts", "ends", "endsAt2", "notes", "annotation", "status", "generatorURL", "\xFF"} {
		expectNoReadOf(t, object(key, jval.Value{}), 50, 100, api.ErrForm)
		expectNoReadOf(t, object(key, texts("a", "1")), 50, 100, api.ErrForm)
		expectNoReadOf(t, object("labels", texts("a", "1"), key, jval.OfText("x")), 50, 100, api.ErrForm)
		expectNoReadOf(t, object(key, jval.OfText("1970-01-01T00:01:00Z"), "labels", texts("a", "1")), 50, 100, api.ErrForm)
	}
	// By hand: not as many Items as Keys.
	for _, v := range []jval.Value{
		{Kind: jval.Object, Keys: []string{"labels"}},
		{Kind: jval.Object, Items: []jval.Value{texts("a", "1")}},
		{Kind: jval.Object, Keys: []string{"labels", "endsAt"}, Items: []jval.Value{texts("a", "1")}},
		{Kind: jval.Object, Keys: []string{"labels"}, Items: []jval.Value{texts("a", "1"), texts()}},
	} {
		expectNoReadOf(t, v, 50, 100, api.ErrForm)
	}
	// What a kind does not have counts for nothing; of a key that stands twice
	// the first one counts (6: Get).
	v := object("startsAt", jval.OfText("1970-01-01T00:00:07Z"), "labels", texts("a", "1"), "labels", texts("b", "2"), "startsAt", jval.OfText("x"))
	v.N, v.Is, v.Text = 7, true, "\xFF"
	got, e := Read(v, 50, 100)
	if expectAlert(t, got, Alert{set(t, "a", "1"), label.Set{}, 7, 150}); e != api.OK {
		t.Errorf("it is %d", e)
	}
}

// wrongTimes are no times' texts, in a value.
func wrongTimes() []jval.Value {
	l := []jval.Value{{}, jval.OfBool(true), jval.OfNumber(0), jval.OfNumber(60), jval.OfList(), jval.OfList(jval.OfText("1970-01-01T00:01:00Z")), texts(), {Kind: jval.Number, Text: "1970-01-01T00:01:00Z"}, {Kind: jval.Null, Text: "1970-01-01T00:01:00Z"}, {Kind: 7, Text: "1970-01-01T00:01:00Z"}}
	for _, s := range []string{"", "x", "0", "60", "1970-01-01", "1970-01-01T00:01:00", "1970-01-01T00:01:00z", "1970-01-01t00:01:00Z", "1970-01-01T00:01:00+00:00", "1970-01-01T00:01:00.0Z", " 1970-01-01T00:01:00Z", "1970-01-01T00:01:00Z ", "1970-02-30T00:00:00Z", "1970-00-01T00:00:00Z", "1970-13-01T00:00:00Z", "1970-01-01T24:00:00Z", "1970-01-01T00:60:00Z", "1970-01-01T00:00:60Z", "1969-12-31T23:59:59Z", "6325-04-09T00:00:00Z", "9999-12-31T23:59:59Z", "\xFF", strings.Repeat("1", 100000)} {
		l = append(l, jval.OfText(s))
	}
	return l
}

// P22.2: a time that is none is ErrForm, whatever else is wrong.
func TestReadOfTimes(t *testing.T) {
	// That the two of these that are above the greatest time are so.
	for _, s := range []string{"6325-04-09T00:00:00Z", "9999-12-31T23:59:59Z"} {
		if _, e := clock.Parse(s); e != api.ErrLong {
			t.Fatalf("%s is %d", s, e)
		}
	}
	good := jval.OfText("1970-01-01T00:01:00Z")
	labels := texts("a", "1")
	for _, x := range wrongTimes() {
		for _, key := range []string{"startsAt", "endsAt"} {
			expectNoReadOf(t, object(key, x), 50, 100, api.ErrForm)
			expectNoReadOf(t, object("labels", labels, key, x), 50, 100, api.ErrForm)
			expectNoReadOf(t, object("labels", labels, key, x), 1<<40, 1<<40, api.ErrForm)
			expectNoReadOf(t, object("labels", labels, key, x), -5, -5, api.ErrForm)
			expectNoReadOf(t, object("labels", texts("a", "1", "a", "1"), key, x), 50, 100, api.ErrForm)
		}
		expectNoReadOf(t, object("labels", labels, "startsAt", x, "endsAt", good), 50, 100, api.ErrForm)
		expectNoReadOf(t, object("labels", labels, "startsAt", good, "endsAt", x), 50, 100, api.ErrForm)
	}
	for _, sec := range []int64{0, 1, 60, api.MaxTime - 1, api.MaxTime} {
		s, _ := clock.Print(sec)
		if sec < api.MaxTime {
			expectReadAt(t, `{"labels":{"a":"1"},"startsAt":"`+s+`"}`, 0, 1, Alert{set(t, "a", "1"), label.Set{}, sec, sec + 1})
		}
		if sec > 0 {
			expectReadAt(t, `{"labels":{"a":"1"},"endsAt":"`+s+`"}`, 0, 1, Alert{set(t, "a", "1"), label.Set{}, 0, sec})
		}
	}
}

// P22.2: now and stay are taken as the nearest times; endsAt is stay behind
// the later one of Starts and now.
func TestReadAtTimes(t *testing.T) {
	labels := set(t, "a", "1")
	for _, x := range []struct {
		starts           string
		now, stay        int64
		wantFrom, wantTo int64
	}{
		{"", 50, 100, 50, 150},
		{"", 0, 1, 0, 1},
		{"", 50, 1, 50, 51},
		{"", -1, 100, 0, 100},
		{"", math.MinInt64, 100, 0, 100},
		{"", math.MinInt64, math.MaxInt64, 0, api.MaxTime},
		{"", 0, api.MaxTime, 0, api.MaxTime},
		{"", 0, api.MaxTime + 1, 0, api.MaxTime},
		{"", api.MaxTime - 1, 1, api.MaxTime - 1, api.MaxTime},
		{"1970-01-01T00:01:00Z", 50, 100, 60, 160},
		{"1970-01-01T00:01:00Z", 59, 100, 60, 160},
		{"1970-01-01T00:01:00Z", 60, 100, 60, 160},
		{"1970-01-01T00:01:00Z", 61, 100, 60, 161},
		{"1970-01-01T00:01:00Z", 700, 100, 60, 800},
		{"1970-01-01T00:01:00Z", 61, 0, 60, 61},
		{"1970-01-01T00:01:00Z", 61, -1, 60, 61},
		{"1970-01-01T00:01:00Z", 61, math.MinInt64, 60, 61},
		{"1970-01-01T00:01:00Z", math.MinInt64, 7, 60, 67},
		{"1970-01-01T00:01:00Z", math.MaxInt64, math.MinInt64, 60, api.MaxTime},
		{"1970-01-01T00:01:00Z", api.MaxTime + 1, 0, 60, api.MaxTime},
		{"1970-01-01T00:01:00Z", 0, api.MaxTime - 60, 60, api.MaxTime},
	} {
		text := `{"labels":{"a":"1"}}`
		if x.starts != "" {
			text = `{"labels":{"a":"1"},"startsAt":"` + x.starts + `"}`
		}
		expectReadAt(t, text, x.now, x.stay, Alert{labels, label.Set{}, x.wantFrom, x.wantTo})
	}
}

// P22.2: what is read so is no alert, as it ends as it starts, or too late.
func TestReadIsRight(t *testing.T) {
	for _, x := range []struct {
		text      string
		now, stay int64
	}{
		{`{}`, 50, 100},
		{`{"annotations":{"a":"1"}}`, 50, 100},
		{`{"labels":{},"startsAt":"1970-01-01T00:00:01Z","endsAt":"1970-01-01T00:00:02Z"}`, 50, 100},
		{`{"labels":{"a":"1"}}`, 50, 0},
		{`{"labels":{"a":"1"}}`, 50, -1},
		{`{"labels":{"a":"1"}}`, api.MaxTime, 1},
		{`{"labels":{"a":"1"}}`, math.MaxInt64, 1},
		{`{"labels":{"a":"1"}}`, math.MaxInt64, math.MaxInt64},
		{`{"labels":{"a":"1"}}`, 1, api.MaxTime},
		{`{"labels":{"a":"1"},"startsAt":"1970-01-01T00:01:00Z"}`, 60, 0},
		{`{"labels":{"a":"1"},"startsAt":"1970-01-01T00:01:00Z"}`, 50, 0},
		{`{"labels":{"a":"1"},"startsAt":"1970-01-01T00:01:00Z"}`, 0, api.MaxTime - 59},
		{`{"labels":{"a":"1"},"endsAt":"1970-01-01T00:01:00Z"}`, 60, 100},
		{`{"labels":{"a":"1"},"endsAt":"1970-01-01T00:01:00Z"}`, 61, 100},
		{`{"labels":{"a":"1"},"endsAt":"1970-01-01T00:00:00Z"}`, -9, 100},
		{`{"labels":{"a":"1"},"startsAt":"1970-01-01T00:01:00Z","endsAt":"1970-01-01T00:01:00Z"}`, 50, 100},
		{`{"labels":{"a":"1"},"startsAt":"1970-01-01T00:01:00Z","endsAt":"1970-01-01T00:00:59Z"}`, 50, 100},
	} {
		expectNoReadAt(t, x.text, x.now, x.stay, api.ErrArg)
	}
}

// P22.2: of labels and of annotations; ErrForm in place of any error of
// theirs, and ahead of an alert that is not right.
func TestReadOfSets(t *testing.T) {
	good := texts("a", "1")
	for _, x := range append(wrongSets(), twice()...) {
		for _, v := range []jval.Value{
			object("labels", x),
			object("labels", x, "annotations", good),
			object("annotations", x, "labels", good),
			object("annotations", x),
			object("annotations", x, "labels", texts()),
			object("annotations", x, "labels", x),
			object("annotations", texts("a", ""), "labels", x),
			object("annotations", x, "labels", texts("a", "1", "a", "1")),
			object("annotations", texts("a", "1", "a", "1"), "labels", x),
			object("labels", x, "startsAt", jval.OfText("1970-01-01T00:00:09Z"), "endsAt", jval.OfText("1970-01-01T00:00:05Z")),
			object("labels", good, "annotations", x, "startsAt", jval.OfText("1970-01-01T00:00:09Z"), "endsAt", jval.OfText("1970-01-01T00:00:05Z")),
		} {
			expectNoReadOf(t, v, 50, 100, api.ErrForm)
		}
	}
	long := strings.Repeat("x", 100000)
	got, e := Read(object("labels", texts(long, long), "annotations", texts(long, long)), 50, 100)
	if expectAlert(t, got, Alert{set(t, long, long), set(t, long, long), 50, 150}); e != api.OK {
		t.Errorf("it is %d", e)
	}
}

// P22.2: all that is wrong is joined, found by errors.Is and errors.As.
func TestFaults(t *testing.T) {
	_, err := said(object("x", jval.Value{}, "endsAt", jval.Value{}, "labels", jval.Value{}), 50, 100)
	var f fault
	if !errors.As(err, &f) || f != (fault{"x", api.ErrForm}) || !errors.Is(err, api.ErrForm) || !errors.Is(err, api.ErrArg) {
		t.Errorf("it is %v", err)
	}
	for _, key := range []string{`"x"`, `"endsAt"`, `"labels"`} {
		if !strings.Contains(err.Error(), key) {
			t.Errorf("%s is not told: %q", key, err.Error())
		}
	}
	if _, err = said(object("labels", texts("a", "1")), 50, 100); err != nil {
		t.Errorf("it is %v", err)
	}
}

// P22.2: a text as Encode writes it, and as others may.
func TestDecode(t *testing.T) {
	want := Alert{set(t, "a", "1", "b", "é"), set(t, "n", "x"), 60, 120}
	for _, s := range []string{
		`{"annotations":{"n":"x"},"endsAt":"1970-01-01T00:02:00Z","labels":{"a":"1","b":"é"},"startsAt":"1970-01-01T00:01:00Z"}`,
		` {"startsAt" : "1970-01-01T00:01:00Z", "endsAt":"1970-01-01T00:02:00\u005a","labels":{"b":"\u00E9","a":"1"},"annotations":{"\u006E":"x"}}` + "\r\n\t ",
	} {
		expectDecode(t, s, want)
	}
	expectDecode(t, `{"endsAt":"1970-01-01T00:02:00Z","labels":{"a":"1"},"startsAt":"1970-01-01T00:01:00Z"}`, Alert{set(t, "a", "1"), label.Set{}, 60, 120})
}

// P22.2: what is no value's text, or says not all, or too much.
func TestNoDecode(t *testing.T) {
	const (
		l     = `"labels":{"a":"1"}`
		s     = `"startsAt":"1970-01-01T00:01:00Z"`
		e     = `"endsAt":"1970-01-01T00:02:00Z"`
		right = "{" + l + "," + s + "," + e + "}"
	)
	expectDecode(t, right, Alert{set(t, "a", "1"), label.Set{}, 60, 120})
	for i := range len(right) {
		expectNoDecode(t, right[:i], api.ErrForm)
		if i > 0 {
			expectNoDecode(t, right[i:], api.ErrForm)
		}
	}
	for _, text := range []string{
		"", " ", "x", "null", "true", "1", `"x"`, "[]", "[" + right + "]", "{}", "{", "}", "\xFF", "\x00",
		right + "x", right + right, right + ",", "x" + right, right + "\xFF", "\uFEFF" + right,
		"{" + l + "}", "{" + l + "," + s + "}", "{" + l + "," + e + "}", "{" + s + "}", "{" + e + "}",
		"{" + l + "," + s + "," + e + `,"x":1}`, "{" + l + "," + s + "," + e + `,"":""}`, "{" + l + "," + s + "," + e + `,"state":"active"}`,
		"{" + l + "," + s + "," + e + "," + l + "}", "{" + l + "," + s + "," + e + "," + s + "}", "{" + l + "," + s + "," + e + ",}",
		"{" + l + "," + s + `,"endsAt":""}`, "{" + l + "," + s + `,"endsAt":null}`, "{" + l + "," + s + `,"endsAt":120}`, "{" + l + "," + s + `,"endsAt":"9999-01-01T00:00:00Z"}`,
		"{" + l + "," + e + `,"startsAt":""}`, "{" + l + "," + e + `,"startsAt":null}`, "{" + l + "," + e + `,"startsAt":60}`, "{" + l + "," + e + `,"startsAt":"9999-01-01T00:00:00Z"}`,
		`{"labels":null,` + s + "," + e + "}", `{"labels":[],` + s + "," + e + "}", `{"labels":{"a":1},` + s + "," + e + "}", `{"labels":{"a":""},` + s + "," + e + "}", `{"labels":{"1":"a"},` + s + "," + e + "}", `{"labels":{"a":"1","a":"1"},` + s + "," + e + "}",
		`{"labels":{"a":99999999999999999999},` + s + "," + e + "}", `{"labels":{"a":1.5},` + s + "," + e + "}",
		`{"labels":` + strings.Repeat("[", 40) + strings.Repeat("]", 40) + `,` + s + "," + e + "}",
		strings.Repeat("[", 100000), strings.Repeat("[", 40) + strings.Repeat("]", 40),
		"{" + l + `,"annotations":null,` + s + "," + e + "}", "{" + l + `,"annotations":{"n":[]},` + s + "," + e + "}", "{" + l + `,"annotations":{"n":"\uD800"},` + s + "," + e + "}",
	} {
		expectNoDecode(t, text, api.ErrForm)
	}
	for _, text := range []string{
		"{" + s + "," + e + "}", `{"labels":{},` + s + "," + e + "}", `{"annotations":{"n":"x"},` + s + "," + e + "}",
		"{" + l + "," + s + `,"endsAt":"1970-01-01T00:01:00Z"}`, "{" + l + "," + s + `,"endsAt":"1970-01-01T00:00:59Z"}`, "{" + l + "," + s + `,"endsAt":"1970-01-01T00:00:00Z"}`,
		"{" + l + "," + e + `,"startsAt":"1970-01-01T00:02:00Z"}`, "{" + l + "," + e + `,"startsAt":"1970-01-01T00:02:01Z"}`,
	} {
		expectNoDecode(t, text, api.ErrArg)
	}
}

// P22.2: alerts that are not right are written, but not read again.
func TestNoDecodeOfWrongOnes(t *testing.T) {
	expectNoDecode(t, Encode(Alert{}), api.ErrArg)
	expectNoDecode(t, Encode(of(t, 5, 5)), api.ErrArg)
	expectNoDecode(t, Encode(of(t, 9, 5)), api.ErrArg)
	expectNoDecode(t, Encode(Alert{Starts: 5, Ends: 9}), api.ErrArg)
	for _, sec := range timesNot {
		expectNoDecode(t, Encode(of(t, sec, 5)), api.ErrForm)
		expectNoDecode(t, Encode(of(t, 5, sec)), api.ErrForm)
	}
}

// P1: a value made by hand that holds itself is no alert, and no set.
func TestValuesThatHoldThemselves(t *testing.T) {
	self := object("labels", jval.Value{}, "endsAt", jval.Value{})
	self.Items[0], self.Items[1] = self, self
	list := jval.Value{Kind: jval.List, Items: make([]jval.Value, 1)}
	list.Items[0] = list
	for _, v := range []jval.Value{self, list, object("labels", self), object("labels", texts("a", "1"), "annotations", list), object("labels", texts("a", "1"), "startsAt", self)} {
		if _, e := Read(v, 50, 100); e != api.ErrForm {
			t.Errorf("Read is %d", e)
		}
		if _, e := SetOf(v); e != api.ErrForm {
			t.Errorf("SetOf is %d", e)
		}
	}
}
