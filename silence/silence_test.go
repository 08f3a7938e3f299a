package silence

import (
	"math"
	"slices"
	"strings"
	"testing"

	"larum/api"
	"larum/clock"
	"larum/jval"
	"larum/label"
	"larum/match"
)

// of: a right silence from one time to another one; its State is not told.
func of(starts, ends int64) Silence {
	return Silence{ID: 3, Match: `{a="1"}`, Starts: starts, Ends: ends, By: "me", Note: "why"}
}

// in: a silence that stands so.
func in(s Silence, state string) Silence {
	s.State = state
	return s
}

// set: the set of names and values, one behind the other.
func set(t *testing.T, l ...string) label.Set {
	t.Helper()
	var pairs []label.Pair
	for i := 0; i < len(l); i += 2 {
		pairs = append(pairs, label.Pair{Name: l[i], Value: l[i+1]})
	}
	s, e := label.Of(pairs...)
	if e != api.OK {
		t.Fatalf("label.Of(%q) is %d", l, e)
	}
	return s
}

func expectSilence(t *testing.T, what string, got Silence, e api.Errno, want Silence) {
	t.Helper()
	if got != want || e != api.OK {
		t.Errorf("%s is %+v, %d, not %+v", what, got, e, want)
	}
}

func expectNoSilence(t *testing.T, what string, got Silence, e, want api.Errno) {
	t.Helper()
	if got != (Silence{}) || e != want {
		t.Errorf("%s is %+v, %d, not %d alone", what, got, e, want)
	}
}

// Lists by their texts, of which Match is one: those as they are written; those
// that are read, but written otherwise; of these the empty ones; those that are
// none, by their errors (17).
var (
	writtenLists = []string{`{a="1"}`, `{a=""}`, `{a!="1"}`, `{a=~"x|y"}`, `{a!~"x.*"}`, `{_Z9="é\"\\\n\u0001/😀"}`, `{a="1",a="1"}`, `{b="2",a="1"}`, `{a="1",b!="2",c=~"3?",d!~""}`, listOf(32, `a="1"`), `{a=~"` + strings.Repeat("a", api.MaxState) + `"}`, `{a="a**"}`, `{a="` + strings.Repeat("x", 5000) + `"}`}
	otherLists   = []string{`{ a="1"}`, `{a="1" }`, `{a = "1"}`, `{a= "1"}`, `{a ="1"}`, ` {a="1"}`, `{a="1"} `, "\t{a=\"1\"}", `{a="1",}`, `{a="1", b="2"}`, `{a="\u0031"}`, `{a="\/"}`, `{a="\u00E9"}`, `{a="\u000a"}`}
	emptyLists   = []string{`{}`, `{ }`, ` {} `, "{\t}"}
	noLists      = []string{"", " ", "x", "a", `a="1"`, `{`, `}`, `{a}`, `{a=}`, `{a="1"`, `a="1"}`, `{a=1}`, `{="1"}`, `{1="1"}`, `{a:"1"}`, `{a=="1"}`, `{a~"1"}`, `{a="1"b="2"}`, `{,}`, `{a="1",,}`, `{a="1"}}`, `{a="1"}x`, "{a=\"\xFF\"}", "{a=\"1\"}\xFF", `{a="\uD800"}`, `{a='1'}`, `{"a":"1"}`, `[]`, `null`, `{a=~"("}`, `{a!~"a**"}`, "\n{a=\"1\"}"}
	fullLists    = []string{listOf(33, `a="1"`), listOf(33, `a=~"("`), listOf(1000, `b!="2"`)}
	longLists    = []string{`{a=~"` + strings.Repeat("a", api.MaxState+1) + `"}`, `{a="1",b!~"((a{16}){16}){2}"}`}
)

// listOf: the text of a list of one matcher, so many times.
func listOf(n int, m string) string {
	return "{" + strings.Repeat(m+",", n-1) + m + "}"
}

// timesNot are no times.
var timesNot = []int64{-1, -2, -api.MaxTime, math.MinInt64, api.MaxTime + 1, api.MaxTime + 2, math.MaxInt64}

// invalid are no valid texts.
var invalid = []string{"\x80", "\xFF", "a\xC3", "\xC3(", "é\xE2\x82", "\xC0\x80", "\xED\xA0\x80", "\xF4\x90\x80\x80", "\xFFé"}

// valid are some that are.
var valid = []string{"", " ", "a", "me@example", "é€😀\U0010FFFF", "\x00\x01\n\x1F\x7F", `"\/`, "{}", "\u2028", strings.Repeat("é", 5000)}

// P23.1: what is right, each part of it up to its bounds; whatever the State.
func TestRight(t *testing.T) {
	base := of(5, 9)
	right := []Silence{base, of(0, 0), of(0, 1), of(5, 5), of(5, 6), of(0, api.MaxTime), of(api.MaxTime, api.MaxTime), of(api.MaxTime-1, api.MaxTime), {Match: `{a="1"}`}}
	for _, id := range []int64{0, 1, 2, 9999999999, 10000000000, math.MaxInt64} {
		s := base
		s.ID = id
		right = append(right, s)
	}
	for _, text := range writtenLists {
		s := base
		s.Match = text
		right = append(right, s)
	}
	for _, text := range valid {
		s, x := base, base
		s.By, x.Note = text, text
		right = append(right, s, x)
	}
	for _, state := range []string{"", Pending, Active, Expired, "Active", "x", "\xFF"} {
		right = append(right, in(base, state))
	}
	for _, s := range right {
		if e := Right(s); e != api.OK {
			t.Errorf("Right(%.200q, %+v) is %d", s.Match, s, e)
		}
	}
}

// wrongOnes are silences that are not right, each for one reason.
func wrongOnes() []Silence {
	base := of(5, 9)
	l := []Silence{{}, of(5, 4), of(9, 0), of(1, 0), of(api.MaxTime, 0), of(api.MaxTime, api.MaxTime-1), of(math.MaxInt64, math.MinInt64), of(math.MinInt64, math.MaxInt64)}
	for _, id := range []int64{-1, -2, -3, math.MinInt64} {
		s := base
		s.ID = id
		l = append(l, s)
	}
	for _, text := range slices.Concat(otherLists, emptyLists, noLists, fullLists, longLists) {
		s := base
		s.Match = text
		l = append(l, s)
	}
	for _, sec := range timesNot {
		l = append(l, of(sec, 9), of(sec, api.MaxTime), of(0, sec), of(5, sec), of(sec, sec))
	}
	for _, text := range invalid {
		s, x := base, base
		s.By, x.Note = text, text
		l = append(l, s, x)
	}
	return l
}

// P23.1: ErrArg of what is not right.
func TestNotRight(t *testing.T) {
	for _, s := range wrongOnes() {
		if e := Right(s); e != api.ErrArg {
			t.Errorf("Right(%.200q, %+v) is %d", s.Match, s, e)
		}
		if e := Right(in(s, Active)); e != api.ErrArg {
			t.Errorf("Right(%+v) is %d", s, e)
		}
	}
}

// P23.1: the state is of the times alone, from Starts on, up to Ends.
func TestAt(t *testing.T) {
	if Pending != "pending" || Active != "active" || Expired != "expired" {
		t.Error("the states have other names")
	}
	for _, x := range []struct {
		starts, ends, now int64
		want              string
	}{
		// The chapter's example.
		{3, 9, 5, Active},
		{3, 9, 2, Pending}, {3, 9, 3, Active}, {3, 9, 4, Active}, {3, 9, 8, Active}, {3, 9, 9, Expired}, {3, 9, 10, Expired},
		{3, 9, 0, Pending}, {3, 9, -1, Pending}, {3, 9, math.MinInt64, Pending}, {3, 9, api.MaxTime, Expired}, {3, 9, math.MaxInt64, Expired},
		{3, 4, 2, Pending}, {3, 4, 3, Active}, {3, 4, 4, Expired},
		{5, 5, 4, Pending}, {5, 5, 5, Expired}, {5, 5, 6, Expired},
		{0, 0, 0, Expired}, {0, 0, -1, Pending}, {0, 1, 0, Active},
		{0, api.MaxTime, api.MaxTime - 1, Active}, {0, api.MaxTime, api.MaxTime, Expired},
		// Those that are not right: from Ends on comes first.
		{9, 5, 4, Pending}, {9, 5, 5, Expired}, {9, 5, 7, Expired}, {9, 5, 9, Expired},
		{math.MinInt64, math.MaxInt64, math.MinInt64, Active}, {math.MinInt64, math.MaxInt64, math.MaxInt64 - 1, Active}, {math.MinInt64, math.MaxInt64, math.MaxInt64, Expired},
		{math.MaxInt64, math.MinInt64, math.MinInt64, Expired}, {math.MaxInt64, math.MaxInt64, 0, Pending},
	} {
		for _, had := range []string{"", Pending, Active, Expired, "\xFF"} {
			s := in(of(x.starts, x.ends), had)
			expectSilence(t, "At", At(s, x.now), api.OK, in(s, x.want))
		}
	}
	wrong := Silence{ID: -7, Match: "\xFF", Starts: 3, Ends: 9, By: "\xFF", Note: "\xFF", State: "x"}
	expectSilence(t, "At", At(wrong, 5), api.OK, in(wrong, Active))
	expectSilence(t, "At", At(Silence{}, -5), api.OK, Silence{State: Pending})
}

// another: one that may come in place of of(..), which differs from it in all
// that may.
func another(starts, ends int64) Silence {
	return Silence{ID: 8, Match: `{b!~"x.*"}`, Starts: starts, Ends: ends, By: "", Note: "é", State: "x"}
}

// P23.1: what comes of an update: the later one, but of the old one's ID.
func TestUpdate(t *testing.T) {
	for _, x := range []struct {
		oldStarts, oldEnds, starts, ends, now int64
		want                                  string
	}{
		// Of a pending one: any Starts.
		{10, 20, 10, 20, 5, Pending}, {10, 20, 12, 30, 5, Pending}, {10, 20, 12, 30, 9, Pending}, {10, 20, 7, 8, 5, Pending},
		{10, 20, 5, 8, 5, Active}, {10, 20, 0, 8, 5, Active}, {10, 20, 0, 6, 5, Active}, {10, 20, 0, 5, 5, Expired}, {10, 20, 5, 5, 5, Expired},
		{10, 20, 0, api.MaxTime, 9, Active}, {10, 20, api.MaxTime, api.MaxTime, 9, Pending}, {10, 10, 3, 12, 9, Active},
		// Of an active one: the same.
		{10, 20, 10, 20, 10, Active}, {10, 20, 10, 30, 10, Active}, {10, 20, 10, 12, 11, Active}, {10, 20, 10, 11, 11, Expired}, {10, 20, 10, 10, 10, Expired},
		{10, 20, 10, api.MaxTime, 19, Active}, {10, 20, 10, 19, 19, Expired}, {0, 1, 0, 1, 0, Active},
		// At no times.
		{10, 20, 0, 8, -1, Pending}, {10, 20, 0, 0, math.MinInt64, Pending},
	} {
		for _, state := range []string{"", Pending, Active, Expired, "\xFF"} {
			old, with := in(of(x.oldStarts, x.oldEnds), state), another(x.starts, x.ends)
			want := in(with, x.want)
			want.ID = old.ID
			got, e := Update(old, with, x.now)
			expectSilence(t, "Update", got, e, want)
			if Right(got) != api.OK {
				t.Errorf("%+v is not right", got)
			}
		}
	}
	// Of an old one that is not right its ID and its times count alone.
	got, e := Update(Silence{ID: -9, Match: "\xFF", Starts: 3, Ends: 9, By: "\xFF"}, another(3, 7), 5)
	want := in(another(3, 7), Active)
	want.ID = -9
	expectSilence(t, "Update", got, e, want)
}

// P23.1: ErrState of one that is over, or that is active, if it were to start
// otherwise; ahead of ErrArg.
func TestUpdateState(t *testing.T) {
	for _, x := range []struct{ oldStarts, oldEnds, starts, ends, now int64 }{
		{10, 20, 10, 20, 20}, {10, 20, 10, 30, 20}, {10, 20, 10, 30, 21}, {10, 20, 25, 30, 20}, {10, 20, 20, 20, 20}, {10, 20, 10, 30, math.MaxInt64},
		{10, 20, 10, 19, 20}, {10, 20, 0, 5, 25}, {10, 10, 10, 30, 10}, {0, 0, 0, 9, 0}, {9, 5, 9, 30, 5}, {9, 5, 9, 30, 7},
		{10, 20, 9, 20, 10}, {10, 20, 11, 20, 10}, {10, 20, 0, 20, 19}, {10, 20, 12, 30, 15}, {10, 20, 15, 30, 15}, {10, 20, api.MaxTime, api.MaxTime, 19},
		{10, 20, 9, 14, 15}, {10, 20, 0, 0, 15},
	} {
		for _, state := range []string{"", Pending, Active, Expired} {
			got, e := Update(in(of(x.oldStarts, x.oldEnds), state), another(x.starts, x.ends), x.now)
			expectNoSilence(t, "Update", got, e, api.ErrState)
		}
	}
}

// P23.1: ErrArg of one that would be over.
func TestUpdateOver(t *testing.T) {
	for _, x := range []struct{ oldStarts, oldEnds, starts, ends, now int64 }{
		{10, 20, 0, 4, 5}, {10, 20, 0, 0, 5}, {10, 20, 4, 4, 5}, {10, 20, 0, 8, 9},
		{10, 20, 10, 14, 15}, {10, 20, 10, 10, 11}, {10, 20, 10, 18, 19}, {10, 20, 10, 10, 19},
		{math.MaxInt64, math.MaxInt64, 0, api.MaxTime, api.MaxTime + 1},
	} {
		for _, state := range []string{"", Pending, Active, Expired} {
			got, e := Update(in(of(x.oldStarts, x.oldEnds), state), another(x.starts, x.ends), x.now)
			expectNoSilence(t, "Update", got, e, api.ErrArg)
		}
	}
}

// P23.1: Right's error of the later one comes first, however the old one stands.
func TestUpdateRight(t *testing.T) {
	for _, with := range wrongOnes() {
		for _, now := range []int64{math.MinInt64, 0, 5, 9, 10, 15, 19, 20, 25, math.MaxInt64} {
			got, e := Update(of(10, 20), with, now)
			expectNoSilence(t, "Update", got, e, api.ErrArg)
		}
	}
}

// P23.1: one that is pending ends and starts now, one that is active ends now.
func TestExpire(t *testing.T) {
	for _, x := range []struct{ starts, ends, now, from, to int64 }{
		// The chapter's example.
		{3, 9, 5, 3, 5},
		{3, 9, 3, 3, 3}, {3, 9, 8, 3, 8}, {0, 1, 0, 0, 0}, {0, api.MaxTime, api.MaxTime - 1, 0, api.MaxTime - 1},
		{3, 9, 2, 2, 2}, {3, 9, 0, 0, 0}, {5, 5, 4, 4, 4}, {api.MaxTime, api.MaxTime, 7, 7, 7}, {api.MaxTime, api.MaxTime, api.MaxTime - 1, api.MaxTime - 1, api.MaxTime - 1},
		// At no times.
		{3, 9, -1, -1, -1}, {3, 9, math.MinInt64, math.MinInt64, math.MinInt64}, {0, math.MaxInt64, api.MaxTime + 1, 0, api.MaxTime + 1}, {math.MinInt64, 9, -7, math.MinInt64, -7},
	} {
		for _, state := range []string{"", Pending, Active, Expired, "\xFF"} {
			s := in(of(x.starts, x.ends), state)
			want := in(of(x.from, x.to), Expired)
			got, e := Expire(s, x.now)
			expectSilence(t, "Expire", got, e, want)
			if Right(s) == api.OK && x.now >= 0 && Right(got) != api.OK {
				t.Errorf("%+v is not right any more", got)
			}
			// It is over now.
			got, e = Expire(got, x.now)
			expectNoSilence(t, "Expire", got, e, api.ErrState)
		}
	}
	wrong := Silence{ID: -7, Match: "\xFF", Starts: 3, Ends: 9, By: "\xFF", Note: "\xFF"}
	want := in(wrong, Expired)
	want.Ends = 5
	got, e := Expire(wrong, 5)
	expectSilence(t, "Expire", got, e, want)
}

// P23.1: ErrState of one that is over.
func TestExpireState(t *testing.T) {
	for _, x := range []struct{ starts, ends, now int64 }{
		{3, 9, 9}, {3, 9, 10}, {3, 9, api.MaxTime}, {3, 9, math.MaxInt64}, {5, 5, 5}, {5, 5, 6}, {0, 0, 0},
		{9, 5, 5}, {9, 5, 7}, {9, 5, 9}, {0, api.MaxTime, api.MaxTime}, {math.MinInt64, math.MinInt64, math.MinInt64},
	} {
		for _, state := range []string{"", Pending, Active, Expired} {
			got, e := Expire(in(of(x.starts, x.ends), state), x.now)
			expectNoSilence(t, "Expire", got, e, api.ErrState)
		}
	}
}

// P23.1: it is active, and its list fits; its times count for nothing.
func TestMutes(t *testing.T) {
	one, two, none := set(t, "a", "1"), set(t, "a", "2", "b", "x"), label.Set{}
	for _, x := range []struct {
		match string
		want  [3]bool
	}{
		{`{a="1"}`, [3]bool{true, false, false}},
		{`{a!="1"}`, [3]bool{false, true, true}},
		{`{a=~"1|2"}`, [3]bool{true, true, false}},
		{`{a!~"1|2"}`, [3]bool{false, false, true}},
		{`{a=""}`, [3]bool{false, false, true}},
		{`{a="2",b="x"}`, [3]bool{false, true, false}},
		{`{a="2",b="y"}`, [3]bool{}},
		{`{a=~".",b!="x"}`, [3]bool{true, false, false}},
		{`{b=~"x?"}`, [3]bool{true, true, true}},
		{`{c="1"}`, [3]bool{}},
		// Lists that are written otherwise, and the empty one, which fits all.
		{` { a = "\u0031" , } `, [3]bool{true, false, false}},
		{`{}`, [3]bool{true, true, true}},
		{`{ }`, [3]bool{true, true, true}},
	} {
		for i, l := range []label.Set{one, two, none} {
			for _, times := range []Silence{of(0, 0), of(5, 9), of(9, 5), of(math.MinInt64, math.MaxInt64)} {
				times.Match = x.match
				if got := Mutes(in(times, Active), l); got != x.want[i] {
					t.Errorf("%s: Mutes(%s) is %v", x.match, l, got)
				}
				for _, state := range []string{"", Pending, Expired, "Active", "ACTIVE", "active ", " active", "activ", "actives", "\xFF"} {
					if Mutes(in(times, state), l) {
						t.Errorf("one that is %q mutes %s", state, l)
					}
				}
			}
		}
	}
}

// P23.1: what is no list holds nothing back.
func TestMutesOfNoList(t *testing.T) {
	for _, text := range slices.Concat(noLists, fullLists, longLists) {
		for _, l := range []label.Set{{}, set(t, "a", "1"), set(t, "b", "2"), set(t, "a", "x", "b", "1")} {
			s := in(of(5, 9), Active)
			s.Match = text
			if Mutes(s, l) {
				t.Errorf("%.200q mutes %s", text, l)
			}
		}
	}
}

// expectValue: a silence is this as JSON, its keys as they stand in the
// chapter, and is written so.
func expectValue(t *testing.T, s Silence, starts, ends, text string) {
	t.Helper()
	want := jval.Value{
		Kind:  jval.Object,
		Keys:  []string{"id", "matchers", "startsAt", "endsAt", "createdBy", "comment", "state"},
		Items: []jval.Value{jval.OfNumber(s.ID), jval.OfText(s.Match), jval.OfText(starts), jval.OfText(ends), jval.OfText(s.By), jval.OfText(s.Note), jval.OfText(s.State)},
	}
	if got := Value(s); !jval.Same(got, want) {
		t.Errorf("Value is %+v, not %+v", got, want)
	}
	if got := Encode(s); got != text {
		t.Errorf("Encode is %q, not %q", got, text)
	}
}

// P23.2: as JSON, and written, its keys rising.
func TestValue(t *testing.T) {
	expectValue(t, Silence{7, `{a="1",b!~"x.*"}`, 0, 951782401, "mé", "\"\n", Active}, "1970-01-01T00:00:00Z", "2000-02-29T00:00:01Z",
		`{"comment":"\"\n","createdBy":"mé","endsAt":"2000-02-29T00:00:01Z","id":7,"matchers":"{a=\"1\",b!~\"x.*\"}","startsAt":"1970-01-01T00:00:00Z","state":"active"}`)
	latest, _ := clock.Print(api.MaxTime)
	expectValue(t, Silence{ID: math.MaxInt64, Match: `{a=""}`, Starts: api.MaxTime, Ends: api.MaxTime, State: Pending}, latest, latest,
		`{"comment":"","createdBy":"","endsAt":"`+latest+`","id":9223372036854775807,"matchers":"{a=\"\"}","startsAt":"`+latest+`","state":"pending"}`)
	expectValue(t, in(of(60, 60), Expired), "1970-01-01T00:01:00Z", "1970-01-01T00:01:00Z",
		`{"comment":"why","createdBy":"me","endsAt":"1970-01-01T00:01:00Z","id":3,"matchers":"{a=\"1\"}","startsAt":"1970-01-01T00:01:00Z","state":"expired"}`)
}

// P23.2: of silences that are not right, too; a time that is none is an empty
// text.
func TestValueOfWrongOnes(t *testing.T) {
	expectValue(t, Silence{}, "1970-01-01T00:00:00Z", "1970-01-01T00:00:00Z",
		`{"comment":"","createdBy":"","endsAt":"1970-01-01T00:00:00Z","id":0,"matchers":"","startsAt":"1970-01-01T00:00:00Z","state":""}`)
	expectValue(t, Silence{math.MinInt64, "x", 9, 5, "", "", "x y"}, "1970-01-01T00:00:09Z", "1970-01-01T00:00:05Z",
		`{"comment":"","createdBy":"","endsAt":"1970-01-01T00:00:05Z","id":-9223372036854775808,"matchers":"x","startsAt":"1970-01-01T00:00:09Z","state":"x y"}`)
	for _, sec := range timesNot {
		expectValue(t, of(sec, 5), "", "1970-01-01T00:00:05Z",
			`{"comment":"why","createdBy":"me","endsAt":"1970-01-01T00:00:05Z","id":3,"matchers":"{a=\"1\"}","startsAt":"","state":""}`)
		expectValue(t, of(5, sec), "1970-01-01T00:00:05Z", "",
			`{"comment":"why","createdBy":"me","endsAt":"","id":3,"matchers":"{a=\"1\"}","startsAt":"1970-01-01T00:00:05Z","state":""}`)
	}
}

// P23.2: nothing is written of a silence of which a text is not valid.
func TestEncodeInvalid(t *testing.T) {
	for _, text := range invalid {
		for i := range 4 {
			s := of(5, 9)
			*[]*string{&s.Match, &s.By, &s.Note, &s.State}[i] = text
			expectValue(t, s, "1970-01-01T00:00:05Z", "1970-01-01T00:00:09Z", "")
		}
	}
}

// Rule 4: what is written into an answer is seen by no later one.
func TestValuesApart(t *testing.T) {
	s := in(of(5, 9), Active)
	want := Encode(s)
	for range 2 {
		v := Value(s)
		for i := range v.Items {
			v.Keys[i], v.Items[i] = "z", jval.OfBool(true)
		}
		if got := Encode(s); got != want {
			t.Errorf("Encode is %q, not %q", got, want)
		}
	}
}

// P23.2: keys of IDs, ten digits each.
func TestKey(t *testing.T) {
	for id, want := range map[int64]string{
		0: "s/0000000000", 1: "s/0000000001", 9: "s/0000000009", 10: "s/0000000010", 12: "s/0000000012", 2147483647: "s/2147483647", 2147483648: "s/2147483648",
		999999999: "s/0999999999", 1000000000: "s/1000000000", 1111111111: "s/1111111111", 9876543210: "s/9876543210", 9999999998: "s/9999999998", 9999999999: "s/9999999999",
	} {
		if got := Key(id); got != want {
			t.Errorf("Key(%d) is %q, not %q", id, got, want)
		}
		if got, ok := OfKey(want); got != id || !ok {
			t.Errorf("OfKey(%q) is %d, %v", want, got, ok)
		}
	}
	for _, id := range []int64{-1, -2, -10, -9999999999, -10000000000, -10000000001, math.MinInt64, math.MinInt64 + 1, 10000000000, 10000000001, 99999999999, math.MaxInt64 - 10000000000, math.MaxInt64 - 1, math.MaxInt64} {
		if got := Key(id); got != "" {
			t.Errorf("Key(%d) is %q", id, got)
		}
	}
	// A later one's key is greater by its bytes.
	for id := int64(1); id <= 9999999999; id = id*3 + 1 {
		if Key(id) <= Key(id-1) || Key(id) <= Key(id/2) {
			t.Errorf("Key(%d) is %q", id, Key(id))
		}
	}
}

// P23.2: what is no silence's key.
func TestOfNoKey(t *testing.T) {
	for _, key := range []string{
		"", "s", "/", "s/", "0", "0000000000", "/0000000000", "s0000000000", "s//0000000000", "s/s/0000000000",
		"s/0", "s/1", "s/12", "s/000000000", "s/000000001", "s/999999999", "s/00000000000", "s/00000000001", "s/10000000000", "s/99999999999", "s/010000000000",
		"s/-000000001", "s/-0000000001", "s/-000000000", "s/0-00000001", "s/00000000-1", "s/+000000001", "s/ 000000001", "s/000000001 ", "s/0000000001 ", " s/0000000001", "s/0000000001\n", "s/0000000001\x00",
		"s/000000000a", "s/00000000.1", "s/0x00000001", "s/1e00000000", "s/0_00000001", "s/000000000٣", "s/\xFF000000001",
		"S/0000000001", "a/0000000001", "a/{}", "S/", "ss/0000000001", "s\\0000000001", "s:0000000001",
		"s/9223372036854775807", "s/9223372036854775808", "s/18446744073709551617", "s/18446744083709551616", "s/" + strings.Repeat("0", 100), "s/" + strings.Repeat("9", 100000),
	} {
		if id, ok := OfKey(key); id != 0 || ok {
			t.Errorf("OfKey(%.100q) is %d, %v", key, id, ok)
		}
	}
	// Each byte of a key changed: it is the key of what it says, or none.
	key := "s/0000000512"
	for i := range key {
		for c := range 256 {
			b := []byte(key)
			b[i] = byte(c)
			id, ok := OfKey(string(b))
			if right := i > 1 && c >= '0' && c <= '9' || string(b) == key; ok != right || ok && Key(id) != string(b) || !ok && id != 0 {
				t.Errorf("OfKey(%q) is %d, %v", b, id, ok)
			}
		}
	}
}

// The lists of the tests are what they are called.
func TestLists(t *testing.T) {
	for e, l := range map[api.Errno][]string{api.OK: slices.Concat(writtenLists, otherLists, emptyLists), api.ErrForm: noLists, api.ErrFull: fullLists, api.ErrLong: longLists} {
		for _, text := range l {
			if _, got := match.Parse(text); got != e {
				t.Errorf("%.200q is %d", text, got)
			}
		}
	}
}
