package alert

import (
	"math"
	"slices"
	"strings"
	"testing"

	"larum/api"
	"larum/clock"
	"larum/jput"
	"larum/jval"
	"larum/label"
)

// set: the set of names and values, one behind the other.
func set(t *testing.T, l ...string) label.Set {
	t.Helper()
	var pairs []label.Pair
	for i := 0; i < len(l); i += 2 {
		pairs = append(pairs, label.Pair{Name: l[i], Value: l[i+1]})
	}
	s, e := label.Of(pairs...)
	if e != api.OK {
		t.Fatalf("Of(%q) is %d", l, e)
	}
	return s
}

// of: an alert of a label and a note, from one time to another one.
func of(t *testing.T, starts, ends int64) Alert {
	t.Helper()
	return Alert{set(t, "a", "1"), set(t, "n", "x"), starts, ends}
}

func same(a, b Alert) bool {
	return label.Same(a.Labels, b.Labels) && label.Same(a.Notes, b.Notes) && a.Starts == b.Starts && a.Ends == b.Ends
}

func expectAlert(t *testing.T, got, want Alert) {
	t.Helper()
	if !same(got, want) {
		t.Errorf("%s, %s, %d, %d, not %s, %s, %d, %d", got.Labels, got.Notes, got.Starts, got.Ends, want.Labels, want.Notes, want.Starts, want.Ends)
	}
}

// timesNot are no times.
var timesNot = []int64{-1, -2, -api.MaxTime, math.MinInt64, api.MaxTime + 1, api.MaxTime + 2, math.MaxInt64}

// P22.1: of labels and times.
func TestRight(t *testing.T) {
	labels, notes := set(t, "a", "1"), set(t, "n", "x")
	for _, a := range []Alert{
		{labels, label.Set{}, 0, 1},
		{labels, notes, 0, 1},
		{labels, notes, 5, 6},
		{labels, notes, 5, 9},
		{labels, notes, 0, api.MaxTime},
		{labels, notes, api.MaxTime - 1, api.MaxTime},
		{set(t, "a", "1", "b", "2", "c", "3"), set(t, "a", "1", "b", "2"), 1, 2},
	} {
		if e := Right(a); e != api.OK {
			t.Errorf("Right(%+v) is %d", a, e)
		}
	}
	wrong := []Alert{
		{},
		{label.Set{}, label.Set{}, 5, 9},
		{label.Set{}, notes, 5, 9},
		{labels, notes, 5, 5},
		{labels, notes, 5, 4},
		{labels, notes, 0, 0},
		{labels, notes, api.MaxTime, api.MaxTime},
		{labels, notes, api.MaxTime, 0},
		{labels, notes, math.MaxInt64, math.MinInt64},
		{labels, notes, math.MinInt64, math.MaxInt64},
	}
	for _, sec := range timesNot {
		wrong = append(wrong, Alert{labels, notes, sec, 9}, Alert{labels, notes, sec, api.MaxTime}, Alert{labels, notes, 0, sec}, Alert{labels, notes, 5, sec}, Alert{labels, notes, sec, sec + 1})
	}
	for _, a := range wrong {
		if e := Right(a); e != api.ErrArg {
			t.Errorf("Right(%+v) is %d", a, e)
		}
	}
}

// P22.1: from Starts on, ahead of Ends.
func TestActive(t *testing.T) {
	for _, x := range []struct {
		starts, ends, now int64
		want              bool
	}{
		{5, 9, 4, false}, {5, 9, 5, true}, {5, 9, 6, true}, {5, 9, 8, true}, {5, 9, 9, false}, {5, 9, 10, false},
		{5, 9, math.MinInt64, false}, {5, 9, math.MaxInt64, false}, {5, 9, 0, false},
		{0, 1, 0, true}, {0, 1, 1, false}, {0, 1, -1, false},
		{5, 5, 4, false}, {5, 5, 5, false}, {5, 5, 6, false},
		{9, 5, 5, false}, {9, 5, 7, false}, {9, 5, 9, false},
		{math.MinInt64, math.MaxInt64, math.MinInt64, true}, {math.MinInt64, math.MaxInt64, 0, true}, {math.MinInt64, math.MaxInt64, math.MaxInt64, false},
	} {
		if got := Active(of(t, x.starts, x.ends), x.now); got != x.want {
			t.Errorf("Active of %d to %d at %d is %v", x.starts, x.ends, x.now, got)
		}
	}
	if !Active(Alert{Starts: 1, Ends: 3}, 2) {
		t.Error("one without labels is not active")
	}
}

// P22.1: a/ and the labels, whatever else the alert has.
func TestKey(t *testing.T) {
	for want, l := range map[string][]string{
		`a/{}`:                               {},
		`a/{a="1"}`:                          {"a", "1"},
		`a/{B="x",a="1",b="2"}`:              {"b", "2", "B", "x", "a", "1"},
		"a/{a=\"\\\"\\\\\\n\\u0001é😀\x7f\"}": {"a", "\"\\\n\x01é😀\x7f"},
	} {
		for _, a := range []Alert{{Labels: set(t, l...)}, {set(t, l...), set(t, "n", "x"), 5, 9}, {set(t, l...), set(t, "n", "y"), 9, 5}} {
			if got := Key(a); got != want {
				t.Errorf("Key is %q, not %q", got, want)
			}
		}
	}
}

// P22.1: one that starts not above the other one's Ends goes on from the
// lower one of both Starts.
func TestMerge(t *testing.T) {
	for _, x := range []struct{ oldStarts, oldEnds, starts, want int64 }{
		// The chapter's example.
		{5, 9, 7, 5}, {5, 9, 11, 11},
		{5, 9, 10, 10}, {5, 9, 9, 5}, {5, 9, 8, 5}, {5, 9, 6, 5}, {5, 9, 5, 5}, {5, 9, 4, 4}, {5, 9, 0, 0},
		{0, 1, 2, 2}, {0, 1, 1, 0}, {0, 1, 0, 0},
		{5, api.MaxTime, api.MaxTime, 5}, {5, api.MaxTime - 1, api.MaxTime, api.MaxTime},
		// Those that are not right.
		{9, 5, 4, 4}, {9, 5, 5, 5}, {9, 5, 6, 6}, {9, 5, 9, 9},
		{math.MinInt64, math.MaxInt64, math.MaxInt64, math.MinInt64}, {math.MaxInt64, math.MaxInt64, math.MinInt64, math.MinInt64}, {math.MinInt64, math.MinInt64, math.MaxInt64, math.MaxInt64},
	} {
		old := Alert{set(t, "a", "1"), set(t, "n", "x"), x.oldStarts, x.oldEnds}
		for _, ends := range []int64{20, 3, x.oldEnds, math.MaxInt64, math.MinInt64} {
			with := Alert{set(t, "a", "1", "b", "2"), set(t, "m", "y"), x.starts, ends}
			want := Alert{with.Labels, with.Notes, x.want, ends}
			got := Merge(old, with)
			expectAlert(t, got, want)
			// Merged twice it is the same.
			expectAlert(t, Merge(old, got), want)
			expectAlert(t, Merge(got, got), got)
			if x.starts <= ends {
				expectAlert(t, Merge(got, with), want)
			}
		}
		expectAlert(t, Merge(old, Alert{Starts: x.starts}), Alert{Starts: x.want})
		expectAlert(t, old, Alert{set(t, "a", "1"), set(t, "n", "x"), x.oldStarts, x.oldEnds})
	}
}

// P22.1: one that is active ends now, but never as it starts.
func TestResolve(t *testing.T) {
	for _, x := range []struct{ starts, ends, now, want int64 }{
		{5, 9, 4, 9}, {5, 9, 5, 6}, {5, 9, 6, 6}, {5, 9, 7, 7}, {5, 9, 8, 8}, {5, 9, 9, 9}, {5, 9, 10, 9}, {5, 9, 0, 9},
		{5, 9, math.MinInt64, 9}, {5, 9, math.MaxInt64, 9},
		{5, 6, 4, 6}, {5, 6, 5, 6}, {5, 6, 6, 6},
		{0, 1, 0, 1}, {0, 7, 0, 1}, {0, 7, 1, 1},
		{api.MaxTime - 2, api.MaxTime, api.MaxTime - 2, api.MaxTime - 1}, {api.MaxTime - 2, api.MaxTime, api.MaxTime - 1, api.MaxTime - 1},
		// Those that are not right.
		{5, 5, 5, 5}, {9, 5, 7, 5}, {9, 5, 9, 5}, {9, 5, 5, 5},
		{math.MinInt64, math.MaxInt64, math.MinInt64, math.MinInt64 + 1}, {math.MinInt64, math.MaxInt64, -3, -3},
		{math.MaxInt64 - 1, math.MaxInt64, math.MaxInt64 - 1, math.MaxInt64}, {math.MaxInt64, math.MaxInt64, math.MaxInt64, math.MaxInt64},
	} {
		a := of(t, x.starts, x.ends)
		got := Resolve(a, x.now)
		expectAlert(t, got, of(t, x.starts, x.want))
		expectAlert(t, Resolve(got, x.now), got)
		if Right(a) == api.OK && Right(got) != api.OK {
			t.Errorf("%d to %d at %d is not right any more", x.starts, x.ends, x.now)
		}
	}
	expectAlert(t, Resolve(Alert{Starts: 1, Ends: 9}, 4), Alert{Starts: 1, Ends: 4})
}

// expectValue: an alert is this as JSON, its keys as they stand in the
// chapter, and is written so.
func expectValue(t *testing.T, a Alert, labels, notes []string, starts, ends, text string) {
	t.Helper()
	want := jval.Value{
		Kind:  jval.Object,
		Keys:  []string{"labels", "annotations", "startsAt", "endsAt"},
		Items: []jval.Value{texts(labels...), texts(notes...), jval.OfText(starts), jval.OfText(ends)},
	}
	if got := Value(a); !jval.Same(got, want) {
		t.Errorf("Value is %+v, not %+v", got, want)
	}
	if got := Encode(a); got != text {
		t.Errorf("Encode is %q, not %q", got, text)
	}
}

// texts: an object of keys and texts, one behind the other.
func texts(l ...string) jval.Value {
	v := jval.Value{Kind: jval.Object}
	for i := 0; i < len(l); i += 2 {
		v.Keys = append(v.Keys, l[i])
		v.Items = append(v.Items, jval.OfText(l[i+1]))
	}
	return v
}

// P22.2: as JSON: labels and notes by their names, times as text.
func TestValue(t *testing.T) {
	a := Alert{set(t, "b", "2", "a", "1", "_", "é\n", "B", `"`), set(t, "z", "/", "y", "u v"), 0, 951782401}
	expectValue(t, a, []string{"B", `"`, "_", "é\n", "a", "1", "b", "2"}, []string{"y", "u v", "z", "/"}, "1970-01-01T00:00:00Z", "2000-02-29T00:00:01Z",
		`{"annotations":{"y":"u v","z":"/"},"endsAt":"2000-02-29T00:00:01Z","labels":{"B":"\"","_":"é\n","a":"1","b":"2"},"startsAt":"1970-01-01T00:00:00Z"}`)

	latest, _ := clock.Print(api.MaxTime)
	expectValue(t, Alert{Labels: set(t, "a", "1"), Ends: api.MaxTime}, []string{"a", "1"}, nil, "1970-01-01T00:00:00Z", latest,
		`{"annotations":{},"endsAt":"`+latest+`","labels":{"a":"1"},"startsAt":"1970-01-01T00:00:00Z"}`)
}

// P22.2: of alerts that are not right, too; a time that is none is an empty
// text.
func TestValueOfWrongOnes(t *testing.T) {
	expectValue(t, Alert{}, nil, nil, "1970-01-01T00:00:00Z", "1970-01-01T00:00:00Z",
		`{"annotations":{},"endsAt":"1970-01-01T00:00:00Z","labels":{},"startsAt":"1970-01-01T00:00:00Z"}`)
	expectValue(t, Alert{Starts: 9, Ends: 5}, nil, nil, "1970-01-01T00:00:09Z", "1970-01-01T00:00:05Z",
		`{"annotations":{},"endsAt":"1970-01-01T00:00:05Z","labels":{},"startsAt":"1970-01-01T00:00:09Z"}`)
	for _, sec := range timesNot {
		expectValue(t, Alert{set(t, "a", "1"), label.Set{}, sec, 5}, []string{"a", "1"}, nil, "", "1970-01-01T00:00:05Z",
			`{"annotations":{},"endsAt":"1970-01-01T00:00:05Z","labels":{"a":"1"},"startsAt":""}`)
		expectValue(t, Alert{set(t, "a", "1"), label.Set{}, 5, sec}, []string{"a", "1"}, nil, "1970-01-01T00:00:05Z", "",
			`{"annotations":{},"endsAt":"","labels":{"a":"1"},"startsAt":"1970-01-01T00:00:05Z"}`)
	}
}

// P22.2: a value of an alert that has many labels is right (7).
func TestValueOfMany(t *testing.T) {
	var l []string
	for i := range 3000 {
		l = append(l, strings.Repeat("x", i%40)+"_"+string(rune('A'+i%26))+strings.Repeat("y", i/26), strings.Repeat("v", i%90+1))
	}
	a := Alert{set(t, l...), set(t, l[:2000]...), 5, 9}
	v := Value(a)
	if e := jput.Right(v); e != api.OK {
		t.Errorf("it is %d", e)
	}
	if keys := v.Items[0].Keys; len(keys) != 3000 || !slices.IsSorted(keys) {
		t.Errorf("%d labels", len(keys))
	}
	expectDecode(t, Encode(a), a)
}

// Rule 4: what is written into an answer is seen by no later one.
func TestValuesApart(t *testing.T) {
	a := Alert{set(t, "a", "1", "b", "2"), set(t, "n", "x"), 5, 9}
	want := Encode(a)
	for range 2 {
		v := Value(a)
		for i := range v.Items {
			x := &v.Items[i]
			for j := range x.Keys {
				x.Keys[j], x.Items[j] = "z", jval.OfNumber(1)
			}
			x.Keys, x.Items = append(x.Keys, "z"), append(x.Items, jval.Value{})
			v.Keys[i], v.Items[i] = "z", jval.OfNumber(1)
		}
		if got := Encode(a); got != want {
			t.Errorf("Encode is %q, not %q", got, want)
		}
	}
}
