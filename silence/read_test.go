package silence

import (
	"errors"
	"fmt"
	"math"
	"slices"
	"strings"
	"testing"

	"larum/api"
	"larum/clock"
	"larum/jval"
)

// value: the value whose text s is.
func value(t *testing.T, s string) jval.Value {
	t.Helper()
	v, at, e := jval.Parse(s, api.MaxDepth)
	if e != api.OK {
		t.Fatalf("Parse(%q) is %d at %d", s, e, at)
	}
	return v
}

// object: one of keys and items, one behind the other, whatever they are; of a
// string the text.
func object(l ...any) jval.Value {
	v := jval.Value{Kind: jval.Object}
	for i := 0; i < len(l); i += 2 {
		x, ok := l[i+1].(jval.Value)
		if !ok {
			x = jval.OfText(l[i+1].(string))
		}
		v.Keys = append(v.Keys, l[i].(string))
		v.Items = append(v.Items, x)
	}
	return v
}

func expectRead(t *testing.T, v jval.Value, now int64, want Silence) {
	t.Helper()
	got, e := Read(v, now)
	expectSilence(t, fmt.Sprintf("Read(%.300q, %d)", fmt.Sprint(v), now), got, e, want)
}

func expectNoRead(t *testing.T, v jval.Value, now int64, want api.Errno) {
	t.Helper()
	got, e := Read(v, now)
	expectNoSilence(t, fmt.Sprintf("Read(%.300q, %d)", fmt.Sprint(v), now), got, e, want)
}

// What clients say in these tests, where nothing else is said.
const (
	aList = `{a="1"}`
	at50  = "1970-01-01T00:00:50Z"
	at60  = "1970-01-01T00:01:00Z"
	at90  = "1970-01-01T00:01:30Z"
)

// P23.2: all that may be said, and as little as may be; keys in any order.
func TestRead(t *testing.T) {
	for _, s := range []string{
		`{"matchers":"{a=\"1\"}","startsAt":"1970-01-01T00:01:00Z","endsAt":"1970-01-01T00:01:30Z","createdBy":"mé","comment":"x\n"}`,
		` { "comment" : "x\u000A","createdBy":"m\u00E9", "endsAt":"1970-01-01T00:01:30\u005A","startsAt":"1970-01-01T00:01:00Z","matchers":"{ a = \"1\" , }" } `,
	} {
		for now, state := range map[int64]string{0: Pending, 59: Pending, 60: Active, 89: Active, 90: Expired, 1000: Expired, api.MaxTime: Expired} {
			expectRead(t, value(t, s), now, Silence{0, aList, 60, 90, "mé", "x\n", state})
		}
	}
	least := value(t, `{"endsAt":"1970-01-01T00:01:30Z","matchers":"{a=\"1\"}"}`)
	expectRead(t, least, 0, Silence{Match: aList, Ends: 90, State: Active})
	expectRead(t, least, 50, Silence{Match: aList, Starts: 50, Ends: 90, State: Active})
	expectRead(t, least, 89, Silence{Match: aList, Starts: 89, Ends: 90, State: Active})
	expectRead(t, least, 90, Silence{Match: aList, Starts: 90, Ends: 90, State: Expired})
	expectNoRead(t, least, 91, api.ErrArg)

	expectRead(t, object("matchers", aList, "endsAt", at90, "createdBy", "me"), 50, Silence{0, aList, 50, 90, "me", "", Active})
	expectRead(t, object("matchers", aList, "endsAt", at90, "comment", "why"), 50, Silence{0, aList, 50, 90, "", "why", Active})
	expectRead(t, object("matchers", aList, "endsAt", at60, "startsAt", at60), 50, Silence{0, aList, 60, 60, "", "", Pending})
	expectRead(t, object("createdBy", "", "comment", "", "endsAt", "1970-01-01T00:00:00Z", "startsAt", "1970-01-01T00:00:00Z", "matchers", aList), 0, Silence{Match: aList, State: Expired})
	for _, text := range valid {
		expectRead(t, object("matchers", aList, "endsAt", at90, "comment", text, "createdBy", text), 50, Silence{0, aList, 50, 90, text, text, Active})
	}
}

// P23.2: what is no object is ErrForm, one made by hand too.
func TestReadNoObject(t *testing.T) {
	good := object("matchers", aList, "endsAt", at90)
	l := []jval.Value{{}, jval.OfBool(true), jval.OfNumber(5), jval.OfText(""), jval.OfText(aList), jval.OfText(`{"matchers":"{a=\"1\"}"}`), jval.OfList(), jval.OfList(good), jval.OfList(jval.OfText("matchers"), jval.OfText(aList))}
	for _, kind := range []int{jval.Null, jval.Bool, jval.Number, jval.Text, jval.List, -1, 6, math.MinInt, math.MaxInt} {
		v := good
		v.Kind = kind
		l = append(l, v)
	}
	// Not as many Items as Keys.
	l = append(l,
		jval.Value{Kind: jval.Object, Keys: []string{"matchers", "endsAt"}},
		jval.Value{Kind: jval.Object, Keys: []string{"matchers", "endsAt"}, Items: good.Items[:1]},
		jval.Value{Kind: jval.Object, Keys: []string{"matchers"}, Items: good.Items},
		jval.Value{Kind: jval.Object, Keys: []string{"matchers", "endsAt", "comment"}, Items: good.Items},
		jval.Value{Kind: jval.Object, Items: good.Items})
	for _, v := range l {
		expectNoRead(t, v, 50, api.ErrForm)
	}
	expectRead(t, good, 50, Silence{0, aList, 50, 90, "", "", Active})
	// What a kind does not have counts for nothing.
	good.N, good.Is, good.Text, good.Items[0].N, good.Items[0].Keys = 7, true, "\xFF", 8, []string{"x"}
	expectRead(t, good, 50, Silence{0, aList, 50, 90, "", "", Active})
}

// P23.2: a key more is ErrForm, whatever it has, and wherever it stands.
func TestReadOtherKeys(t *testing.T) {
	for _, key := range []string{"", "x", "id", "state", "Match", "match", "Matchers", "matchers ", " matchers", "matchers\x00", "startsat", "StartsAt", "starts", "ends", "EndsAt", "createdby", "by", "note", "comments", "annotations", "labels", "\xFF"} {
		for _, x := range []any{"", "x", aList, at90, jval.Value{}, jval.OfNumber(0), object()} {
			expectNoRead(t, object(key, x), 50, api.ErrForm)
			expectNoRead(t, object(key, x, "matchers", aList, "endsAt", at90), 50, api.ErrForm)
			expectNoRead(t, object("matchers", aList, "endsAt", at90, key, x), 50, api.ErrForm)
			expectNoRead(t, object("matchers", aList, "startsAt", at60, "createdBy", "", "comment", "", "endsAt", at90, key, x), 50, api.ErrForm)
		}
		// Ahead of a list that is too full, and of what is not right.
		expectNoRead(t, object("matchers", fullLists[0], "endsAt", at90, key, "x"), 50, api.ErrForm)
		expectNoRead(t, object("matchers", "{}", "endsAt", at90, key, "x"), 50, api.ErrForm)
	}
}

// P23.2: without matchers, or endsAt, it is ErrForm, whatever else is wrong.
func TestReadLacks(t *testing.T) {
	for _, v := range []jval.Value{
		object(), object("matchers", aList), object("endsAt", at90), object("startsAt", at60), object("createdBy", "me"), object("comment", "x"),
		object("matchers", aList, "startsAt", at60, "createdBy", "me", "comment", "x"),
		object("endsAt", at90, "startsAt", at60, "createdBy", "me", "comment", "x"),
		object("matchers", "{}"), object("matchers", fullLists[0]), object("matchers", longLists[0]), object("matchers", aList, "comment", "\xFF"),
		object("endsAt", at50, "startsAt", at60),
	} {
		for _, now := range []int64{50, -1, 1 << 40, math.MinInt64, math.MaxInt64} {
			expectNoRead(t, v, now, api.ErrForm)
		}
	}
}

// P23.2: what is no text is ErrForm, by each key.
func TestReadNoTexts(t *testing.T) {
	all := map[string]string{"matchers": aList, "startsAt": at60, "endsAt": at90, "createdBy": "me", "comment": "why"}
	for _, x := range []jval.Value{{}, jval.OfBool(true), jval.OfNumber(0), jval.OfNumber(60), jval.OfList(), object()} {
		for key, good := range all {
			texts := []jval.Value{x, jval.OfList(jval.OfText(good)), {Kind: jval.Null, Text: good}, {Kind: jval.Number, Text: good}, {Kind: jval.List, Text: good}, {Kind: -1, Text: good}, {Kind: 6, Text: good}}
			for _, x := range texts {
				var l []any
				for k, text := range all {
					if l = append(l, k, text); k == key {
						l[len(l)-1] = x
					}
				}
				expectNoRead(t, object(l...), 50, api.ErrForm)
				expectNoRead(t, object("matchers", "{}", key, x), 50, api.ErrForm)
				expectNoRead(t, object(key, x), 50, api.ErrForm)
			}
		}
	}
}

// P23.2: a time that is none is ErrForm, of a text of a time that is too late
// as well.
func TestReadOfTimes(t *testing.T) {
	for _, s := range []string{"6325-04-09T00:00:00Z", "9999-12-31T23:59:59Z"} {
		if _, e := clock.Parse(s); e != api.ErrLong {
			t.Fatalf("%s is %d", s, e)
		}
	}
	for _, s := range []string{"", " ", "x", "0", "60", "now", "1970-01-01", "1970-01-01T00:01:00", "1970-01-01T00:01:00z", "1970-01-01t00:01:00Z", "1970-01-01T00:01:00+00:00", "1970-01-01T00:01:00.0Z", " 1970-01-01T00:01:00Z", "1970-01-01T00:01:00Z ", "1970-02-30T00:00:00Z", "1970-13-01T00:00:00Z", "1970-01-01T24:00:00Z", "1970-01-01T00:60:00Z", "1970-01-01T00:00:60Z", "1969-12-31T23:59:59Z", "6325-04-09T00:00:00Z", "9999-12-31T23:59:59Z", "\xFF", strings.Repeat("1", 100000)} {
		for _, now := range []int64{0, 50, -1, 1 << 40} {
			expectNoRead(t, object("matchers", aList, "startsAt", s, "endsAt", at90), now, api.ErrForm)
			expectNoRead(t, object("matchers", aList, "endsAt", s), now, api.ErrForm)
			expectNoRead(t, object("matchers", aList, "startsAt", at60, "endsAt", s), now, api.ErrForm)
			// Ahead of all that is told otherwise.
			for _, m := range []string{"{}", fullLists[0], longLists[0]} {
				expectNoRead(t, object("matchers", m, "startsAt", s, "endsAt", at90, "comment", "\xFF"), now, api.ErrForm)
				expectNoRead(t, object("matchers", m, "startsAt", at60, "endsAt", s, "comment", "\xFF"), now, api.ErrForm)
			}
		}
	}
	for _, sec := range []int64{0, 1, 60, api.MaxTime - 1, api.MaxTime} {
		s, _ := clock.Print(sec)
		expectRead(t, object("matchers", aList, "startsAt", s, "endsAt", s), sec, Silence{0, aList, sec, sec, "", "", Expired})
		expectRead(t, object("matchers", aList, "endsAt", s), sec, Silence{0, aList, sec, sec, "", "", Expired})
	}
}

// P23.2: startsAt that lacks is the time that is nearest to now; how it stands
// is told of now itself.
func TestReadAtTimes(t *testing.T) {
	latest, _ := clock.Print(api.MaxTime)
	v := object("matchers", aList, "endsAt", latest)
	for _, x := range []struct {
		now, starts int64
		state       string
	}{
		{0, 0, Active}, {1, 1, Active}, {api.MaxTime - 1, api.MaxTime - 1, Active}, {api.MaxTime, api.MaxTime, Expired},
		{-1, 0, Pending}, {-100, 0, Pending}, {math.MinInt64, 0, Pending},
		{api.MaxTime + 1, api.MaxTime, Expired}, {api.MaxTime * 2, api.MaxTime, Expired}, {math.MaxInt64, api.MaxTime, Expired},
	} {
		expectRead(t, v, x.now, Silence{0, aList, x.starts, api.MaxTime, "", "", x.state})
	}
	v = object("matchers", aList, "startsAt", at60, "endsAt", at90)
	expectRead(t, v, math.MinInt64, Silence{0, aList, 60, 90, "", "", Pending})
	expectRead(t, v, math.MaxInt64, Silence{0, aList, 60, 90, "", "", Expired})
	// Above all times it would end ahead of its beginning.
	expectNoRead(t, object("matchers", aList, "endsAt", at90), math.MaxInt64, api.ErrArg)
}

// P23.2: a list, however it is written, becomes its String; what is none has
// Parse's error (17), an empty one is not right.
func TestReadOfLists(t *testing.T) {
	read := func(text string) jval.Value { return object("endsAt", at90, "matchers", text) }
	for _, text := range writtenLists {
		expectRead(t, read(text), 50, Silence{0, text, 50, 90, "", "", Active})
	}
	for text, want := range map[string]string{
		`{ a="1"}`: `{a="1"}`, ` { a = "\u0031" , } `: `{a="1"}`, "\t{a\t=~\t\"x|y\"\t}\t": `{a=~"x|y"}`, `{b="2", a!="\/",}`: `{b="2",a!="/"}`, `{a="\u00e9\u000A"}`: `{a="é\n"}`,
	} {
		expectRead(t, read(text), 50, Silence{0, want, 50, 90, "", "", Active})
	}
	for e, l := range map[api.Errno][]string{api.ErrForm: noLists, api.ErrFull: fullLists, api.ErrLong: longLists, api.ErrArg: emptyLists} {
		for _, text := range l {
			expectNoRead(t, read(text), 50, e)
			// Ahead of what is not right.
			expectNoRead(t, object("matchers", text, "endsAt", at50, "startsAt", at60, "createdBy", "\xFF"), 50, e)
		}
	}
}

// P23.2: what is read so is not right.
func TestReadIsRight(t *testing.T) {
	for _, v := range []jval.Value{
		object("matchers", aList, "endsAt", at50, "startsAt", at60),
		object("matchers", aList, "endsAt", "1970-01-01T00:00:49Z"),
		object("matchers", aList, "endsAt", "1970-01-01T00:00:00Z"),
		object("matchers", "{}", "endsAt", at90),
		object("matchers", "{}", "endsAt", at50, "startsAt", at60),
	} {
		expectNoRead(t, v, 50, api.ErrArg)
	}
	for _, text := range invalid {
		expectNoRead(t, object("matchers", aList, "endsAt", at90, "comment", text), 50, api.ErrArg)
		expectNoRead(t, object("matchers", aList, "endsAt", at90, "createdBy", text), 50, api.ErrArg)
	}
}

// P23.2: all that is wrong is joined, found by errors.Is and errors.As.
func TestFaults(t *testing.T) {
	_, err := said(object("startsAt", "x", "matchers", fullLists[0]), 50)
	var f fault
	if !errors.As(err, &f) || f != (fault{"startsAt", api.ErrForm}) {
		t.Errorf("it is %v", err)
	}
	for _, e := range []api.Errno{api.ErrForm, api.ErrFull, api.ErrArg} {
		if !errors.Is(err, e) {
			t.Errorf("%d is not told: %v", e, err)
		}
	}
	for _, key := range []string{`"startsAt"`, `"endsAt"`, `"matchers"`} {
		if !strings.Contains(err.Error(), key) {
			t.Errorf("%s is not told: %v", key, err)
		}
	}
	if _, err = said(object("matchers", aList, "endsAt", at90), 50); err != nil {
		t.Errorf("it is %v", err)
	}
}

// written: a silence's text, of parts that are JSON's texts already.
func written(comment, by, ends, id, matchers, starts, state string) string {
	return `{"comment":` + comment + `,"createdBy":` + by + `,"endsAt":` + ends + `,"id":` + id + `,"matchers":` + matchers + `,"startsAt":` + starts + `,"state":` + state + `}`
}

// The parts of a text that is right.
const (
	partList   = `"{a=\"1\"}"`
	partStarts = `"1970-01-01T00:01:00Z"`
	partEnds   = `"1970-01-01T00:01:30Z"`
	partState  = `"active"`
)

func expectDecode(t *testing.T, s string, want Silence) {
	t.Helper()
	got, e := Decode(s)
	expectSilence(t, fmt.Sprintf("Decode(%.300q)", s), got, e, want)
}

func expectNoDecode(t *testing.T, s string) {
	t.Helper()
	got, e := Decode(s)
	expectNoSilence(t, fmt.Sprintf("Decode(%.300q)", s), got, e, api.ErrForm)
}

// P23.2: a text as Encode writes it, of each state, whatever the times say.
func TestDecode(t *testing.T) {
	for _, state := range []string{Pending, Active, Expired} {
		expectDecode(t, written(`"why"`, `"me"`, partEnds, `3`, partList, partStarts, `"`+state+`"`), Silence{3, aList, 60, 90, "me", "why", state})
		expectDecode(t, written(`""`, `"\"\\\n\u0001/é😀"`, partStarts, `0`, partList, partStarts, `"`+state+`"`), Silence{0, aList, 60, 60, "\"\\\n\x01/é😀", "", state})
		expectDecode(t, written(`""`, `""`, `"1970-01-01T00:00:00Z"`, `9223372036854775807`, `"{b!~\"\\\\d\"}"`, `"1970-01-01T00:00:00Z"`, `"`+state+`"`), Silence{math.MaxInt64, `{b!~"\\d"}`, 0, 0, "", "", state})
	}
}

// P23.2: a text that is written otherwise, though it says the same.
func TestDecodeOtherwise(t *testing.T) {
	right := written(`"why"`, `"me"`, partEnds, `3`, partList, partStarts, partState)
	expectDecode(t, right, Silence{3, aList, 60, 90, "me", "why", Active})
	for i := range right {
		expectNoDecode(t, right[:i])
		if i > 0 {
			expectNoDecode(t, right[i:])
		}
		if end := len(right) - 1; i < end {
			expectNoDecode(t, right[:i]+right[i+1:]+right[i:i+1])
		}
	}
	for _, s := range []string{" " + right, right + " ", right + "\n", "\uFEFF" + right, right + "x", right + right, "[" + right + "]", `"` + right + `"`,
		strings.ReplaceAll(right, ",", ", "), strings.ReplaceAll(right, ":3", ": 3"), strings.Replace(right, "{", "{ ", 1),
		`{"id":3,"matchers":` + partList + `,"startsAt":` + partStarts + `,"endsAt":` + partEnds + `,"createdBy":"me","comment":"why","state":"active"}`,
		`{"createdBy":"me","comment":"why","endsAt":` + partEnds + `,"id":3,"matchers":` + partList + `,"startsAt":` + partStarts + `,"state":"active"}`,
		written(`"\u0077hy"`, `"me"`, partEnds, `3`, partList, partStarts, partState),
		written(`"why"`, `"\u00E9"`, partEnds, `3`, partList, partStarts, partState),
		written(`"\/"`, `"me"`, partEnds, `3`, partList, partStarts, partState),
		written(`"\u000a"`, `"me"`, partEnds, `3`, partList, partStarts, partState),
		written(`"\u001F"`, `"me"`, partEnds, `3`, partList, partStarts, partState),
		written(`"why"`, `"me"`, partEnds, `3`, partList, partStarts, `"\u0061ctive"`),
		written(`"why"`, `"me"`, partEnds, `-0`, partList, partStarts, partState),
		strings.Replace(right, `"id"`, `"\u0069d"`, 1),
		strings.Replace(right, `{`, `{"annotations":"",`, 1), strings.Replace(right, `"me",`, `"me","e":0,`, 1), strings.TrimSuffix(right, "}") + `,"x":1}`, strings.TrimSuffix(right, "}") + `,}`,
		strings.TrimSuffix(right, "}") + `,"state":"active"}`, strings.TrimSuffix(right, "}") + `,"id":3}`,
	} {
		expectNoDecode(t, s)
	}
	for _, part := range []string{`"comment":"why",`, `"createdBy":"me",`, `"endsAt":` + partEnds + `,`, `"id":3,`, `"matchers":` + partList + `,`, `"startsAt":` + partStarts + `,`, `,"state":"active"`} {
		expectNoDecode(t, strings.Replace(right, part, "", 1))
		expectNoDecode(t, strings.Replace(right, part, part+part, 1))
	}
	for _, s := range []string{"", " ", "x", "null", "true", "1", `"x"`, "[]", "{}", "{", "}", "\xFF", "\x00", strings.Repeat("[", 100000), strings.Repeat(`{"id":`, 100000), strings.Repeat("[", 40) + strings.Repeat("]", 40)} {
		expectNoDecode(t, s)
	}
}

// P23.2: what is no Value of a right silence, of one of the three states.
func TestDecodeWrong(t *testing.T) {
	for _, x := range []string{`null`, `true`, `0`, `1`, `[]`, `{}`, `[""]`, `"\uD800"`, "\"\xFF\"", `x`, ``} {
		expectNoDecode(t, written(x, `"me"`, partEnds, `3`, partList, partStarts, partState))
		expectNoDecode(t, written(`"why"`, x, partEnds, `3`, partList, partStarts, partState))
		expectNoDecode(t, written(`"why"`, `"me"`, x, `3`, partList, partStarts, partState))
		expectNoDecode(t, written(`"why"`, `"me"`, partEnds, `3`, x, partStarts, partState))
		expectNoDecode(t, written(`"why"`, `"me"`, partEnds, `3`, partList, x, partState))
		expectNoDecode(t, written(`"why"`, `"me"`, partEnds, `3`, partList, partStarts, x))
	}
	for _, id := range []string{`null`, `true`, `"3"`, `""`, `[]`, `{}`, `[3]`, `-1`, `-9223372036854775808`, `9223372036854775808`, `03`, `3.0`, `3e0`, `+3`, ``, `x`} {
		expectNoDecode(t, written(`"why"`, `"me"`, partEnds, id, partList, partStarts, partState))
	}
	for _, state := range []string{`""`, `"Active"`, `"ACTIVE"`, `" active"`, `"active "`, `"activ"`, `"actives"`, `"x"`, `"pending,active"`} {
		expectNoDecode(t, written(`"why"`, `"me"`, partEnds, `3`, partList, partStarts, state))
	}
	for _, x := range []string{`""`, `"x"`, `"60"`, `"1970-01-01"`, `"1970-01-01T00:01:00z"`, `"1970-01-01T00:01:60Z"`, `"1969-12-31T23:59:59Z"`, `"9999-01-01T00:00:00Z"`} {
		expectNoDecode(t, written(`"why"`, `"me"`, x, `3`, partList, partStarts, partState))
		expectNoDecode(t, written(`"why"`, `"me"`, partEnds, `3`, partList, x, partState))
	}
	expectNoDecode(t, written(`"why"`, `"me"`, `"1970-01-01T00:00:59Z"`, `3`, partList, partStarts, partState))
	expectNoDecode(t, written(`"why"`, `"me"`, `"1970-01-01T00:00:00Z"`, `3`, partList, partStarts, partState))
	for _, x := range []string{`"{}"`, `"{ a=\"1\"}"`, `"{a=\"1\",}"`, `" {a=\"1\"}"`, `"{a=\"\\u0031\"}"`, `"{a}"`, `"a=\"1\""`} {
		expectNoDecode(t, written(`"why"`, `"me"`, partEnds, `3`, x, partStarts, partState))
	}
}

// P23.2: silences that are not right, or of no state, are written, but not read
// again.
func TestNoDecodeOfWrongOnes(t *testing.T) {
	for _, s := range wrongOnes() {
		for _, state := range []string{Pending, Active, Expired} {
			expectNoDecode(t, Encode(in(s, state)))
		}
	}
	for _, state := range []string{"", "x", "Active", "\xFF"} {
		expectNoDecode(t, Encode(in(of(5, 9), state)))
	}
}

// P23.3: Decode of Encode, at all the bounds.
func TestDecodeOfEncode(t *testing.T) {
	base := in(of(5, 9), Active)
	l := []Silence{base}
	for _, id := range []int64{0, 1, 9999999999, 10000000000, math.MaxInt64} {
		s := base
		s.ID = id
		l = append(l, s)
	}
	for _, text := range writtenLists {
		s := base
		s.Match = text
		l = append(l, s)
	}
	for _, text := range valid {
		s := base
		s.By, s.Note = text, text+"x"
		l = append(l, s)
	}
	for _, s := range []Silence{of(0, 0), of(0, api.MaxTime), of(api.MaxTime, api.MaxTime), of(7, 7)} {
		l = append(l, in(s, Pending), in(s, Active), in(s, Expired))
	}
	for _, s := range l {
		expectDecode(t, Encode(s), s)
	}
}

// P1: a value made by hand that holds itself is no silence; what a text does
// not have counts for nothing.
func TestValuesThatHoldThemselves(t *testing.T) {
	self := object("matchers", jval.Value{}, "endsAt", jval.Value{})
	self.Items[0], self.Items[1] = self, self
	list := jval.Value{Kind: jval.List, Items: make([]jval.Value, 1)}
	list.Items[0] = list
	// Such a value can't be told in a message.
	for _, v := range []jval.Value{self, list, object("matchers", self, "endsAt", at90), object("matchers", aList, "endsAt", list), object("matchers", aList, "endsAt", at90, "comment", self)} {
		got, e := Read(v, 50)
		expectNoSilence(t, "Read", got, e, api.ErrForm)
	}
	text := jval.Value{Kind: jval.Text, Text: aList, Items: self.Items, Keys: self.Keys}
	got, e := Read(object("matchers", text, "endsAt", at90), 50)
	expectSilence(t, "Read", got, e, Silence{0, aList, 50, 90, "", "", Active})
}

// Rule 4: a value that is read is not changed.
func TestReadChangesNothing(t *testing.T) {
	v := object("startsAt", at60, "matchers", `{ a = "1" }`, "endsAt", at90, "createdBy", "me", "comment", "why")
	keys, items := slices.Clone(v.Keys), slices.Clone(v.Items)
	for range 2 {
		expectRead(t, v, 70, Silence{0, aList, 60, 90, "me", "why", Active})
		if !slices.Equal(v.Keys, keys) || !slices.EqualFunc(v.Items, items, jval.Same) {
			t.Fatalf("it is %+v now", v)
		}
	}
}
