package shape

import (
	"math"
	"slices"
	"strings"
	"testing"

	"larum/alert"
	"larum/api"
	"larum/group"
	"larum/jval"
	"larum/label"
)

func sameGroup(a, b group.Group) bool {
	return label.Same(a.Key, b.Key) && slices.EqualFunc(a.Members, b.Members, func(x, y group.Member) bool {
		return sameAlert(x.Alert, y.Alert) && slices.Equal(x.By, y.By)
	})
}

// groupsOfAll is groups of right alerts.
func groupsOfAll() []group.Group {
	many := group.Group{Key: set("a", "1", "b", "é\n\"")}
	for i := range int64(300) {
		many.Members = append(many.Members, group.Member{Alert: one("1", i, i+1), By: []int64{i, i + 1, -i}})
	}
	return append(full().Groups, many, group.Group{}, group.Group{Key: set("a", "1")},
		group.Group{Members: []group.Member{{Alert: alert.Alert{Labels: set("a", "1", "b", "2"), Ends: api.MaxTime}, By: []int64{math.MaxInt64, math.MinInt64, 0, 0}}}})
}

// P28.2: a group as JSON, its keys as they stand in the chapter.
func TestGroup(t *testing.T) {
	object := func(l ...any) jval.Value {
		v := jval.Value{Kind: jval.Object}
		for i := 0; i < len(l); i += 2 {
			v.Keys = append(v.Keys, l[i].(string))
			switch x := l[i+1].(type) {
			case string:
				v.Items = append(v.Items, jval.OfText(x))
			case jval.Value:
				v.Items = append(v.Items, x)
			}
		}
		return v
	}
	for _, x := range []struct {
		g    group.Group
		want jval.Value
	}{
		{group.Group{}, object("key", object(), "alerts", jval.OfList())},
		{group.Group{Key: set("b", "2", "a", "1")}, object("key", object("a", "1", "b", "2"), "alerts", jval.OfList())},
		{
			group.Group{Key: set("a", "1"), Members: []group.Member{{Alert: one("1", 5, 9), By: []int64{7, -3}}, {Alert: alert.Alert{Starts: -1}}}},
			object("key", object("a", "1"), "alerts", jval.OfList(
				object("labels", object("a", "1"), "annotations", object("n", "x"), "startsAt", "1970-01-01T00:00:05Z", "endsAt", "1970-01-01T00:00:09Z", "silencedBy", jval.OfList(jval.OfNumber(7), jval.OfNumber(-3))),
				object("labels", object(), "annotations", object(), "startsAt", "", "endsAt", "1970-01-01T00:00:00Z", "silencedBy", jval.OfList()),
			)),
		},
	} {
		if got := Group(x.g); !jval.Same(got, x.want) {
			t.Errorf("Group(%v) is %+v, not %+v", x.g, got, x.want)
		}
	}
}

// P28.2: back, in whatever order the keys stand.
func TestOfGroup(t *testing.T) {
	for _, g := range groupsOfAll() {
		v := Group(g)
		if got, e := OfGroup(v); e != api.OK || !sameGroup(got, g) {
			t.Errorf("OfGroup of %v is %v, %d", g, got, e)
		}
		// As jput has them, by their keys, and backwards.
		for _, v := range []jval.Value{value(encoded(t, v)), backwards(v)} {
			if got, e := OfGroup(v); e != api.OK || !sameGroup(got, g) {
				t.Errorf("OfGroup of %v is %v, %d", v, got, e)
			}
		}
	}
}

// backwards: v, all objects' keys the other way round.
func backwards(v jval.Value) jval.Value {
	v.Items, v.Keys = slices.Clone(v.Items), slices.Clone(v.Keys)
	for i, x := range v.Items {
		v.Items[i] = backwards(x)
	}
	if v.Kind == jval.Object {
		slices.Reverse(v.Items)
		slices.Reverse(v.Keys)
	}
	return v
}

func expectNoGroup(t *testing.T, v jval.Value) {
	t.Helper()
	if g, e := OfGroup(v); e != api.ErrForm || g.Key.Len() != 0 || len(g.Members) != 0 {
		t.Errorf("OfGroup(%.300v) is %v, %d", v, g, e)
	}
}

const (
	memberText = `{"labels":{"a":"1"},"annotations":{"n":"x"},"startsAt":"1970-01-01T00:00:05Z","endsAt":"1970-01-01T00:00:09Z","silencedBy":[2,3]}`
	groupText  = `{"key":{"a":"1"},"alerts":[` + memberText + `]}`
)

// P28.2: what has another form; a part of a right one in place of another one.
func TestNoGroup(t *testing.T) {
	if g, e := OfGroup(value(groupText)); e != api.OK || !sameGroup(g, group.Group{Key: set("a", "1"), Members: []group.Member{{Alert: one("1", 5, 9), By: []int64{2, 3}}}}) {
		t.Fatalf("it is %v, %d", g, e)
	}
	for _, x := range [][2]string{
		// Keys that lack, that are more, or others.
		{`"key":{"a":"1"},`, ""}, {`,"alerts":[` + memberText + `]`, ""}, {`{"key"`, `{"x":1,"key"`}, {`{"key"`, `{"":null,"key"`}, {`"key"`, `"Key"`}, {`"key"`, `"keys"`}, {`"alerts"`, `"members"`},
		{`"labels":{"a":"1"},`, ""}, {`"annotations":{"n":"x"},`, ""}, {`"startsAt":"1970-01-01T00:00:05Z",`, ""}, {`"endsAt":"1970-01-01T00:00:09Z",`, ""}, {`,"silencedBy":[2,3]`, ""},
		{`{"labels"`, `{"x":1,"labels"`}, {`{"labels"`, `{"key":{},"labels"`}, {`"labels"`, `"label"`}, {`"annotations"`, `"notes"`}, {`"silencedBy"`, `"by"`}, {`"startsAt"`, `"starts"`}, {`"endsAt"`, `"state"`},
		// What they have.
		{`{"a":"1"}`, "null"}, {`{"a":"1"}`, "[]"}, {`{"a":"1"}`, `"a"`}, {`{"a":"1"}`, `{"a":1}`}, {`{"a":"1"}`, `{"a":""}`}, {`{"a":"1"}`, `{"9":"1"}`}, {`{"a":"1"}`, `{"":"1"}`}, {`{"a":"1"}`, `{"a":null}`},
		{"[" + memberText + "]", memberText}, {"[" + memberText + "]", "null"}, {"[" + memberText + "]", `{}`}, {"[" + memberText + "]", `"[]"`}, {memberText, "null"}, {memberText, "[]"}, {memberText, "{}"}, {memberText, `"a"`}, {memberText, memberText + ",1"}, {memberText, "1," + memberText}, {memberText, "[" + memberText + "]"},
		// Alerts that are not right.
		{`"labels":{"a":"1"}`, `"labels":{}`}, {`"labels":{"a":"1"}`, `"labels":null`}, {`{"n":"x"}`, "null"}, {`{"n":"x"}`, `{"n":""}`}, {`{"n":"x"}`, `{"n":1}`}, {"05Z", "09Z"}, {"05Z", "10Z"}, {"09Z", "05Z"}, {"05Z", "5Z"}, {`"1970-01-01T00:00:05Z"`, "5"}, {`"1970-01-01T00:00:05Z"`, `""`}, {`"1970-01-01T00:00:09Z"`, `""`}, {`"1970-01-01T00:00:09Z"`, "null"}, {`"1970-01-01T00:00:09Z"`, `"9999-01-01T00:00:09Z"`},
		// What is no numbers.
		{"[2,3]", "null"}, {"[2,3]", "2"}, {"[2,3]", "{}"}, {"[2,3]", `"2"`}, {"[2,3]", `["2"]`}, {"[2,3]", "[2,null]"}, {"[2,3]", "[true,3]"}, {"[2,3]", "[[2,3]]"}, {"[2,3]", "[{},3]"},
	} {
		text := strings.Replace(groupText, x[0], x[1], 1)
		if text == groupText {
			t.Fatalf("there is no %s", x[0])
		}
		expectNoGroup(t, value(text))
		expectNoGroup(t, backwards(value(text)))
		// A right Member ahead, or behind, does not help.
		if strings.Contains(text, `"alerts":[{`) {
			expectNoGroup(t, value(strings.Replace(text, `"alerts":[`, `"alerts":[`+memberText+",", 1)))
			expectNoGroup(t, value(strings.TrimSuffix(text, "]}")+","+memberText+"]}"))
		}
	}
	for _, text := range []string{"null", "1", "true", `"a"`, "[]", "{}", "[" + groupText + "]", memberText, nested(16), `{"key":{}}`, `{"alerts":[]}`, `{"groups":[],"rev":0}`} {
		expectNoGroup(t, value(text))
	}
	if g, e := OfGroup(value(`{"alerts":[],"key":{}}`)); e != api.OK || !sameGroup(g, group.Group{}) {
		t.Errorf("it is %v, %d", g, e)
	}
}

// P28.2, P1: values made by hand.
func TestNoGroupByHand(t *testing.T) {
	right := func() jval.Value { return Group(full().Groups[0]) }
	member := func(v jval.Value) *jval.Value { return &v.Items[1].Items[0] }
	for i, change := range []func(v *jval.Value){
		func(v *jval.Value) { v.Kind = jval.List },
		func(v *jval.Value) { v.Kind = -1 },
		func(v *jval.Value) { v.Kind = 6 },
		func(v *jval.Value) { v.Keys = nil },
		func(v *jval.Value) { v.Items = nil },
		func(v *jval.Value) { v.Keys = v.Keys[:1] },
		func(v *jval.Value) { v.Items = v.Items[:1] },
		func(v *jval.Value) { v.Items = append(v.Items, jval.Value{}) },
		func(v *jval.Value) { v.Keys = append(v.Keys, "x") },
		// A key twice, in place of another one, or beside it.
		func(v *jval.Value) { v.Keys[1] = "key" },
		func(v *jval.Value) { v.Keys[0] = "alerts" },
		func(v *jval.Value) {
			v.Keys, v.Items = append(v.Keys, v.Keys[0]), append(v.Items, v.Items[0])
		},
		func(v *jval.Value) {
			v.Keys, v.Items = append(v.Keys, v.Keys[1]), append(v.Items, v.Items[1])
		},
		func(v *jval.Value) { v.Items[0].Keys = append(v.Items[0].Keys, "a") },
		func(v *jval.Value) {
			v.Items[0].Keys = append(v.Items[0].Keys, "a")
			v.Items[0].Items = append(v.Items[0].Items, jval.OfText("1"))
		},
		func(v *jval.Value) { v.Items[0].Kind = jval.List },
		func(v *jval.Value) { v.Items[1].Kind = jval.Object },
		func(v *jval.Value) { v.Items[1].Kind = jval.Null },
		func(v *jval.Value) { member(*v).Kind = jval.List },
		func(v *jval.Value) { member(*v).Keys = member(*v).Keys[:4] },
		func(v *jval.Value) { member(*v).Items = member(*v).Items[:4] },
		func(v *jval.Value) { member(*v).Keys[1] = "labels" },
		func(v *jval.Value) { member(*v).Keys[4] = "labels" },
		func(v *jval.Value) { member(*v).Keys[0] = "silencedBy" },
		func(v *jval.Value) {
			m := member(*v)
			m.Keys, m.Items = append(m.Keys, m.Keys[4]), append(m.Items, m.Items[4])
		},
		func(v *jval.Value) {
			m := member(*v)
			m.Items[0].Keys, m.Items[0].Items = append(m.Items[0].Keys, "a"), append(m.Items[0].Items, jval.OfText("1"))
		},
		func(v *jval.Value) { member(*v).Items[4].Kind = jval.Object },
		func(v *jval.Value) { member(*v).Items[4].Items[0].Kind = jval.Text },
		func(v *jval.Value) { member(*v).Items[4].Items[1] = jval.Value{N: 3} },
		func(v *jval.Value) { member(*v).Items[2].Kind = jval.Number },
		func(v *jval.Value) { *member(*v) = jval.Value{} },
		func(v *jval.Value) { v.Items[0].Items[0].Text = "\xFF" },
		func(v *jval.Value) { member(*v).Items[0].Items[0].Text = "\xFF" },
	} {
		v := right()
		change(&v)
		if g, e := OfGroup(v); e != api.ErrForm || g.Key.Len() != 0 || len(g.Members) != 0 {
			t.Errorf("the %d. is %v, %d", i, g, e)
		}
	}
	// What a kind does not have counts for nothing.
	v := right()
	v.N, v.Is, v.Text = 7, true, "\xFF"
	v.Items[1].Keys, v.Items[1].N, v.Items[1].Text = []string{"x", "x", "x"}, 9, "\xFF"
	member(v).Items[4].Keys = []string{"y"}
	member(v).Items[4].Items[0].Items = []jval.Value{{Kind: 9}}
	member(v).Items[2].Items = []jval.Value{{Kind: 9}}
	if g, e := OfGroup(v); e != api.OK || !sameGroup(g, full().Groups[0]) {
		t.Errorf("it is %v, %d", g, e)
	}
}

// P1: a value made by hand that holds itself is no group.
func TestValuesThatHoldThemselves(t *testing.T) {
	list := jval.Value{Kind: jval.List, Items: make([]jval.Value, 1)}
	list.Items[0] = list
	self := jval.Value{Kind: jval.Object, Keys: []string{"key", "alerts"}, Items: make([]jval.Value, 2)}
	self.Items[0], self.Items[1] = self, self
	set := jval.Value{Kind: jval.Object, Keys: []string{"a"}, Items: make([]jval.Value, 1)}
	set.Items[0] = set
	deep := jval.Value{}
	for range 1 << 16 {
		deep = jval.Value{Kind: jval.List, Items: []jval.Value{deep}}
	}
	for _, x := range []jval.Value{list, self, set, deep} {
		expectWrong := func(v jval.Value) {
			t.Helper()
			if _, e := OfGroup(v); e != api.ErrForm {
				t.Errorf("it is %d", e)
			}
		}
		expectWrong(x)
		for i := range 2 {
			v := Group(full().Groups[0])
			v.Items[i] = x
			expectWrong(v)
		}
		for i := range 5 {
			v := Group(full().Groups[0])
			v.Items[1].Items[1].Items[i] = x
			expectWrong(v)
		}
	}
}

// Rules 4 and 5: no list that is answered is seen by a later answer, or shared
// with what is handed in.
func TestGroupsAreNew(t *testing.T) {
	g := full().Groups[0]
	v := Group(g)
	back, _ := OfGroup(v)
	v.Items[1].Items[0].Items[4].Items[0] = jval.OfText("x")
	v.Items[1].Items[1] = jval.Value{}
	v.Keys[0] = "x"
	if !sameGroup(back, full().Groups[0]) || !sameGroup(g, full().Groups[0]) {
		t.Errorf("they became %v, %v", g, back)
	}
	v = Group(g)
	back.Members[0].By[0] = 99
	_ = append(back.Members[0].By[:1], 98)
	g.Members[1].By = append(g.Members[1].By, 97)
	if again, e := OfGroup(v); e != api.OK || !sameGroup(again, full().Groups[0]) {
		t.Errorf("it is %v, %d", again, e)
	}
}
