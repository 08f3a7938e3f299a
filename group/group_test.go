package group

import (
	"math"
	"slices"
	"strings"
	"testing"

	"larum/alert"
	"larum/api"
	"larum/label"
	"larum/match"
	"larum/silence"
)

// set: the set of names and values, one behind the other.
func set(t *testing.T, l ...string) label.Set {
	t.Helper()
	var pairs []label.Pair
	for i := 0; i < len(l); i += 2 {
		pairs = append(pairs, label.Pair{Name: l[i], Value: l[i+1]})
	}
	s, e := label.Of(pairs...)
	if e != api.OK {
		t.Fatalf("label.Of(%q) is %d", l, e)
	}
	return s
}

// sets: the sets of texts, each one of values by a, b and c; a point stands for
// none.
func sets(t *testing.T, l ...string) []label.Set {
	t.Helper()
	var all []label.Set
	for _, text := range l {
		var pairs []string
		for i, c := range []byte(text) {
			if c != '.' {
				pairs = append(pairs, string("abc"[i]), string(rune(c)))
			}
		}
		all = append(all, set(t, pairs...))
	}
	return all
}

// alerts: those of such sets, one behind the other from one second on each.
func alerts(t *testing.T, l ...string) []alert.Alert {
	t.Helper()
	var all []alert.Alert
	for i, s := range sets(t, l...) {
		all = append(all, alert.Alert{Labels: s, Notes: set(t, "n", "x"), Starts: int64(i), Ends: 99})
	}
	return all
}

// list: the list whose text s is.
func list(t *testing.T, s string) *match.List {
	t.Helper()
	l, e := match.Parse(s)
	if e != api.OK {
		t.Fatalf("match.Parse(%q) is %d", s, e)
	}
	return l
}

// hold: a silence that is active.
func hold(id int64, text string) silence.Silence {
	return silence.Silence{ID: id, Match: text, State: silence.Active}
}

// sameAlert: is all of both alike?
func sameAlert(a, b alert.Alert) bool {
	return label.Same(a.Labels, b.Labels) && label.Same(a.Notes, b.Notes) && a.Starts == b.Starts && a.Ends == b.Ends
}

// told: groups as text: of each its key, and of its Members by which second they
// start, and what holds them back.
func told(l []Group) string {
	var b strings.Builder
	for _, g := range l {
		b.WriteString(g.Key.String())
		for _, m := range g.Members {
			b.WriteByte(' ')
			b.WriteByte(byte('0' + m.Alert.Starts))
			for _, id := range m.By {
				b.WriteByte('-')
				b.WriteByte(byte('0' + id))
			}
		}
		b.WriteByte(';')
	}
	return b.String()
}

// expectOf: the groups, as told, of alerts of which none has changed.
func expectOf(t *testing.T, names []string, l []alert.Alert, silences []silence.Silence, fits *match.List, want string) {
	t.Helper()
	got := Of(names, l, silences, fits)
	if is := told(got); is != want {
		t.Errorf("Of(%q) of %s is %s, not %s", names, fits, is, want)
	}
	for _, g := range got {
		for _, m := range g.Members {
			if !sameAlert(m.Alert, l[m.Alert.Starts]) {
				t.Errorf("%+v is not %+v", m.Alert, l[m.Alert.Starts])
			}
		}
	}
}

func expectMuted(t *testing.T, l label.Set, silences []silence.Silence, want ...int64) {
	t.Helper()
	if got := Muted(l, silences); !slices.Equal(got, want) {
		t.Errorf("Muted(%s, %v) is %v, not %v", l, silences, got, want)
	}
}

// P24.1: the IDs of those that hold back, as they stand.
func TestMuted(t *testing.T) {
	l := sets(t, "1.", "2x", "..")
	for _, s := range l {
		expectMuted(t, s, nil)
		expectMuted(t, s, []silence.Silence{})
		expectMuted(t, s, []silence.Silence{{}})
		expectMuted(t, s, []silence.Silence{hold(3, `{c="1"}`)})
	}
	all := []silence.Silence{hold(7, `{a="1"}`), hold(3, `{a="2"}`), hold(5, `{a=~"1|2"}`), hold(1, `{b=""}`), hold(4, `{a!="2",b!="x"}`), hold(2, `{b=~"x?"}`)}
	expectMuted(t, l[0], all, 7, 5, 1, 4, 2)
	expectMuted(t, l[1], all, 3, 5, 2)
	expectMuted(t, l[2], all, 1, 4, 2)
	slices.Reverse(all)
	expectMuted(t, l[0], all, 2, 4, 1, 5, 7)
	expectMuted(t, l[1], all, 2, 5, 3)
	expectMuted(t, l[2], all, 2, 4, 1)
}

// P24.1: an ID that stands twice, or is any number.
func TestMutedIDs(t *testing.T) {
	one := set(t, "a", "1")
	expectMuted(t, one, []silence.Silence{hold(7, `{a="1"}`), hold(7, `{a="1"}`), hold(7, `{a="2"}`), hold(7, `{b!="2"}`)}, 7, 7, 7)
	expectMuted(t, one, []silence.Silence{hold(7, `{a="1"}`), hold(3, `{a="1"}`), hold(7, `{a="1"}`)}, 7, 3, 7)
	expectMuted(t, one, []silence.Silence{hold(0, `{a="1"}`), hold(-1, `{a="1"}`), hold(math.MinInt64, `{a="1"}`), hold(math.MaxInt64, `{a="1"}`)}, 0, -1, math.MinInt64, math.MaxInt64)
}

// notHolding are silences that hold nothing back that a 1 may have.
func notHolding() []silence.Silence {
	var l []silence.Silence
	for _, state := range []string{"", silence.Pending, silence.Expired, "Active", "active ", "x", "\xFF"} {
		s := hold(9, `{a="1"}`)
		s.State = state
		l = append(l, s)
	}
	for _, text := range []string{"", "x", "{", `{a="1"`, `a="1"`, `{a=~"("}`, `{a="2"}`, `{a!="1"}`, "{a!=\"\xFF\"}", `{a!~"` + strings.Repeat("x", api.MaxState+1) + `"}`, "{" + strings.Repeat(`a="1",`, 33) + "}"} {
		l = append(l, hold(9, text))
	}
	return l
}

// P24.1: those that are not active, or of no list, hold nothing back; the times
// and all else count for nothing.
func TestMutedByNone(t *testing.T) {
	one := set(t, "a", "1")
	none := notHolding()
	expectMuted(t, one, none)
	for i := range none {
		expectMuted(t, one, slices.Insert(slices.Clone(none), i, hold(3, `{a="1"}`)), 3)
	}
	for _, s := range []silence.Silence{{Starts: 5, Ends: 9}, {Starts: 9, Ends: 5}, {Starts: math.MinInt64, Ends: math.MinInt64}, {By: "\xFF", Note: "\xFF"}, {ID: -5}} {
		s.Match, s.State = ` { a = "1" , }`, silence.Active
		expectMuted(t, one, []silence.Silence{s}, s.ID)
		s.Match = `{}`
		expectMuted(t, one, []silence.Silence{s}, s.ID)
		expectMuted(t, label.Set{}, []silence.Silence{s}, s.ID)
	}
}

// P24.1: the chapter's example; groups by their keys' texts, alerts as they
// stand.
func TestOf(t *testing.T) {
	l := alerts(t, "11", "2", "12")
	expectOf(t, []string{"a"}, l, nil, nil, `{a="1"} 0 2;{a="2"} 1;`)
	slices.Reverse(l)
	for i := range l {
		l[i].Starts = int64(i)
	}
	expectOf(t, []string{"a"}, l, nil, nil, `{a="1"} 0 2;{a="2"} 1;`)

	l = alerts(t, "2x", "1y", "1x", "..1", "2y", "2x", ".x")
	expectOf(t, []string{"a"}, l, nil, nil, `{a="1"} 1 2;{a="2"} 0 4 5;{} 3 6;`)
	expectOf(t, []string{"b"}, l, nil, nil, `{b="x"} 0 2 5 6;{b="y"} 1 4;{} 3;`)
	expectOf(t, []string{"a", "b"}, l, nil, nil, `{a="1",b="x"} 2;{a="1",b="y"} 1;{a="2",b="x"} 0 5;{a="2",b="y"} 4;{b="x"} 6;{} 3;`)
	expectOf(t, []string{"c"}, l, nil, nil, `{c="1"} 3;{} 0 1 2 4 5 6;`)
	expectOf(t, []string{"c", "a"}, l, nil, nil, `{a="1"} 1 2;{a="2"} 0 4 5;{c="1"} 3;{} 6;`)
}

// P24.1: a text's order is that of its bytes.
func TestOfOrder(t *testing.T) {
	l := alerts(t, "z", "Z", "~", "}", ".", "a", " ", ".", "\"", "\\", "0", "\x01", "\x7F")
	l = append(l, alert.Alert{Labels: set(t, "a", "é"), Starts: 13}, alert.Alert{Labels: set(t, "a", "10"), Starts: 14}, alert.Alert{Labels: set(t, "a", "1"), Starts: 15}, alert.Alert{Labels: set(t, "a", "2"), Starts: 16}, alert.Alert{Labels: set(t, "a", "aa"), Starts: 17})
	var texts []string
	for _, g := range Of([]string{"a"}, l, nil, nil) {
		texts = append(texts, g.Key.String())
	}
	want := []string{`{a=" "}`, `{a="0"}`, `{a="1"}`, `{a="10"}`, `{a="2"}`, `{a="Z"}`, `{a="\""}`, `{a="\\"}`, `{a="\u0001"}`, `{a="a"}`, `{a="aa"}`, `{a="z"}`, `{a="}"}`, `{a="~"}`, "{a=\"\x7F\"}", `{a="é"}`, `{}`}
	if !slices.Equal(texts, want) {
		t.Errorf("they are %q", texts)
	}
}

// P24.1: names that are none, twice, of no label, or no names.
func TestOfNames(t *testing.T) {
	l := alerts(t, "2x", "1y", "1x")
	for _, names := range [][]string{nil, {}, {"c"}, {"c", "d", "c"}, {""}, {"1", "\xFF", "A", "a ", " a"}} {
		expectOf(t, names, l, nil, nil, `{} 0 1 2;`)
		expectOf(t, names, nil, nil, nil, "")
	}
	for _, names := range [][]string{{"a"}, {"a", "a"}, {"c", "a", "", "a", "\xFF"}} {
		expectOf(t, names, l, nil, nil, `{a="1"} 1 2;{a="2"} 0;`)
	}
	for _, names := range [][]string{{"a", "b"}, {"b", "a"}, {"b", "a", "b", "a"}} {
		expectOf(t, names, l, nil, nil, `{a="1",b="x"} 2;{a="1",b="y"} 1;{a="2",b="x"} 0;`)
	}
}

// P24.1: no alerts, one, all alike, those without labels.
func TestOfFew(t *testing.T) {
	for _, l := range [][]alert.Alert{nil, {}} {
		if got := Of([]string{"a"}, l, []silence.Silence{hold(1, `{}`)}, nil); len(got) != 0 {
			t.Errorf("it is %v", got)
		}
	}
	expectOf(t, []string{"a"}, alerts(t, "1"), nil, nil, `{a="1"} 0;`)
	expectOf(t, []string{"a"}, alerts(t, "1", "1", "1"), nil, nil, `{a="1"} 0 1 2;`)
	expectOf(t, []string{"a"}, alerts(t, ".", "."), nil, nil, `{} 0 1;`)
	// Those that are not right.
	got := Of([]string{"a"}, []alert.Alert{{}, {Labels: set(t, "a", "1"), Starts: 9, Ends: -5}}, nil, nil)
	if len(got) != 2 || got[0].Members[0].Alert.Ends != -5 || got[1].Members[0].Alert.Labels.Len() != 0 {
		t.Errorf("they are %+v", got)
	}
}

// P24.1: those that fit alone; a nil list and an empty one fit all.
func TestOfThatFit(t *testing.T) {
	l := alerts(t, "2x", "1y", "1x", ".x")
	for fits, want := range map[string]string{
		`{}`:               `{a="1"} 1 2;{a="2"} 0;{} 3;`,
		`{a="1"}`:          `{a="1"} 1 2;`,
		`{b="x"}`:          `{a="1"} 2;{a="2"} 0;{} 3;`,
		`{a!="1"}`:         `{a="2"} 0;{} 3;`,
		`{a=~"1|2"}`:       `{a="1"} 1 2;{a="2"} 0;`,
		`{a="1",b="x"}`:    `{a="1"} 2;`,
		`{a=""}`:           `{} 3;`,
		`{a="3"}`:          ``,
		`{a="1",a="2"}`:    ``,
		`{c="",b!~"[^x]"}`: `{a="1"} 2;{a="2"} 0;{} 3;`,
	} {
		expectOf(t, []string{"a"}, l, nil, list(t, fits), want)
	}
	expectOf(t, []string{"a"}, l, nil, nil, `{a="1"} 1 2;{a="2"} 0;{} 3;`)
	expectOf(t, []string{"a"}, l, nil, &match.List{}, `{a="1"} 1 2;{a="2"} 0;{} 3;`)
	// By all labels, not just by those of the names.
	expectOf(t, nil, l, nil, list(t, `{a="2"}`), `{} 0;`)
}

// P24.1: what holds back each Member, by all its labels.
func TestOfHeldBack(t *testing.T) {
	l := alerts(t, "2x", "1y", "1x", ".x")
	s := []silence.Silence{hold(7, `{b="x"}`), hold(3, `{a="1"}`), hold(7, `{a="2"}`), hold(5, `{a=""}`)}
	expectOf(t, []string{"a"}, l, s, nil, `{a="1"} 1-3 2-7-3;{a="2"} 0-7-7;{} 3-7-5;`)
	expectOf(t, nil, l, s, list(t, `{b="x"}`), `{} 0-7-7 2-7-3 3-7-5;`)
	slices.Reverse(s)
	expectOf(t, []string{"a"}, l, s, nil, `{a="1"} 1-3 2-3-7;{a="2"} 0-7-7;{} 3-5-7;`)
	expectOf(t, []string{"a"}, alerts(t, "1", "2"), notHolding(), list(t, `{a="1"}`), `{a="1"} 0;`)
	expectOf(t, []string{"b"}, l, []silence.Silence{}, nil, `{b="x"} 0 2 3;{b="y"} 1;`)
}

func expectFiring(t *testing.T, l []Group, want ...string) {
	t.Helper()
	if got := Firing(l); !slices.Equal(got, want) {
		t.Errorf("Firing(%s) is %q, not %q", told(l), got, want)
	}
}

// P24.1: the groups of which all, some and none are held back.
func TestFiring(t *testing.T) {
	expectFiring(t, nil)
	expectFiring(t, []Group{})
	l := alerts(t, "2x", "1y", "1x", "3y", "3y", ".x")
	by := []string{"a"}
	for text, want := range map[string][]string{
		`{c="1"}`:            {`{a="1"}`, `{a="2"}`, `{a="3"}`, `{}`},
		`{b="x"}`:            {`{a="1"}`, `{a="3"}`},
		`{b="y"}`:            {`{a="1"}`, `{a="2"}`, `{}`},
		`{a="1"}`:            {`{a="2"}`, `{a="3"}`, `{}`},
		`{a=""}`:             {`{a="1"}`, `{a="2"}`, `{a="3"}`},
		`{a="3",b="x"}`:      {`{a="1"}`, `{a="2"}`, `{a="3"}`, `{}`},
		`{a=~"1|3"}`:         {`{a="2"}`, `{}`},
		`{}`:                 nil,
		`{b=~"x|y"}`:         nil,
		`{a!="1",b=~"x|y"}`:  {`{a="1"}`},
		`{b="x",a=~"1|2|3"}`: {`{a="1"}`, `{a="3"}`, `{}`},
	} {
		expectFiring(t, Of(by, l, []silence.Silence{hold(7, text)}, nil), want...)
		expectFiring(t, Of(by, l, []silence.Silence{hold(0, text), hold(7, text)}, nil), want...)
	}
	expectFiring(t, Of(by, l, []silence.Silence{hold(7, `{b="x"}`), hold(8, `{b="y"}`)}, nil))
	expectFiring(t, Of(nil, l, []silence.Silence{hold(7, `{b="x"}`)}, nil), `{}`)
	expectFiring(t, Of(by, nil, nil, nil))
}

// P24.1: groups made by hand: in the order in which they stand, one of no Member
// not, one key twice.
func TestFiringByHand(t *testing.T) {
	fires, held := Member{}, Member{By: []int64{0}}
	group := func(val string, l ...Member) Group { return Group{Key: set(t, "a", val), Members: l} }
	expectFiring(t, []Group{{}})
	expectFiring(t, []Group{{Members: []Member{}}, group("1"), group("2", held), group("3", held, held)})
	expectFiring(t, []Group{{Members: []Member{fires}}}, `{}`)
	expectFiring(t, []Group{{Members: []Member{{By: []int64{}}}}}, `{}`)
	expectFiring(t, []Group{group("2", fires), group("3", held), group("1", held, fires), group("1"), {}, group("1", fires, held), group("0", fires, fires)}, `{a="2"}`, `{a="1"}`, `{a="1"}`, `{a="0"}`)
}

// Rules 4, 5: what is written into an answer, or into what was handed in, is
// seen by no other answer.
func TestApart(t *testing.T) {
	names, l := []string{"a", "b"}, alerts(t, "2x", "1y", "1x", "1x")
	s := []silence.Silence{hold(7, `{b="x"}`), hold(3, `{a="1"}`)}
	want := `{a="1",b="x"} 2-7-3 3-7-3;{a="1",b="y"} 1-3;{a="2",b="x"} 0-7;`
	first := Of(names, l, s, nil)
	for range 2 {
		got := Of(names, l, s, nil)
		for i := range got {
			g := &got[i]
			for j := range g.Members {
				m := &g.Members[j]
				m.By[0] = 9
				m.By = append(m.By, 8)
			}
			for range 9 {
				g.Members = append(g.Members[:len(g.Members):cap(g.Members)], Member{})
			}
		}
		got = append(got[:1], Group{}, Group{})
		by := Muted(l[2].Labels, s)
		by[0] = 9
		expectMuted(t, l[2].Labels, s, 7, 3)
		expectOf(t, names, l, s, nil, want)
	}
	names[0], l[0], s[0] = "c", alert.Alert{}, silence.Silence{}
	if got := told(first); got != want {
		t.Errorf("they are %s by now", got)
	}
}
