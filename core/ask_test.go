package core

import (
	"math"
	"slices"
	"testing"

	"larum/alert"
	"larum/api"
	"larum/clog"
	"larum/group"
	"larum/match"
	"larum/silence"
)

// held: the group of alerts that these silences hold back.
func held(by []int64, l ...alert.Alert) group.Group {
	g := group.Group{Key: l[0].Labels.Pick("a")}
	for _, a := range l {
		g.Members = append(g.Members, group.Member{Alert: a, By: by})
	}
	return g
}

// free: a group each of one alert that nothing holds back.
func free(l ...alert.Alert) []group.Group {
	var all []group.Group
	for _, a := range l {
		all = append(all, held(nil, a))
	}
	return all
}

// many: a machine with alerts of a from 1 to 9, and these.
func many(t *testing.T, c Config) (*Machine, []alert.Alert) {
	t.Helper()
	var l []alert.Alert
	for i := range 9 {
		l = append(l, one("a"+string(rune('1'+i)), 1, 90))
	}
	m := New(c, 10)
	done(t, m, posting(l...))
	return m, l
}

// P26.2: Groups of what was just asked for: by labels, of those that fit, with
// what holds them back; all are told at once, so no pin stays.
func TestGroups(t *testing.T) {
	m := New(wide, 10)
	expectDo(t, m, Op{Kind: Groups, By: []string{"a"}, N: 9}, Reply{})
	x, y, z := one("a1b1", 1, 90), one("a1b2", 1, 90), one("a2b1", 50, 90)
	done(t, m, posting(x, y, z), creating(quiet(`{b="1"}`, 1, 99)), creating(quiet(`{a="1"}`, 1, 99)), creating(quiet(`{a="1"}`, 20, 99)))
	mixed := held([]int64{1, 2}, x, y)
	mixed.Members[1].By = []int64{2}
	all := group.Group{Members: []group.Member{mixed.Members[0], mixed.Members[1], {Alert: z, By: []int64{1}}}}
	for range 2 {
		expectDo(t, m, Op{Kind: Groups, By: []string{"a"}, N: 9}, Reply{Rev: 4, Groups: []group.Group{mixed, held([]int64{1}, z)}})
		// By none all are one group; labels that lack, or stand twice, count for nothing.
		for _, by := range [][]string{nil, {}, {"c"}} {
			expectDo(t, m, Op{Kind: Groups, By: by, N: 9}, Reply{Rev: 4, Groups: []group.Group{all}})
		}
		expectDo(t, m, Op{Kind: Groups, By: []string{"c", "a", "a"}, N: 9}, Reply{Rev: 4, Groups: []group.Group{mixed, held([]int64{1}, z)}})
		expectDo(t, m, Op{Kind: Groups, By: []string{"a"}, N: 9, Filter: list(`{a="2"}`)}, Reply{Rev: 4, Groups: []group.Group{held([]int64{1}, z)}})
		expectDo(t, m, Op{Kind: Groups, By: []string{"a"}, N: 9, Filter: list(`{b!="1"}`)}, Reply{Rev: 4, Groups: []group.Group{held([]int64{2}, y)}})
		expectDo(t, m, Op{Kind: Groups, By: []string{"a"}, N: 9, Filter: list(`{b="9"}`)}, Reply{Rev: 4})
		expectDo(t, m, Op{Kind: Groups, By: []string{"a"}, N: 9, Filter: list(`{}`)}, Reply{Rev: 4, Groups: []group.Group{mixed, held([]int64{1}, z)}})
		expectDo(t, m, Op{Kind: Groups, By: []string{"a"}, N: 9, Filter: &match.List{}}, Reply{Rev: 4, Groups: []group.Group{mixed, held([]int64{1}, z)}})
		expectStands(t, m, 4, 10, 0, 0)
	}
}

// P26.2: N and At below, within and beyond their bounds.
func TestGroupsOfNumbers(t *testing.T) {
	m, l := many(t, wide)
	for _, c := range []struct{ n, at, from, to int }{
		{1, 0, 0, 1}, {0, 0, 0, 1}, {-1, 0, 0, 1}, {math.MinInt, 0, 0, 1},
		{2, 0, 0, 2}, {8, 0, 0, 8}, {9, 0, 0, 9}, {10, 0, 0, 9}, {1000, 0, 0, 9}, {1001, 0, 0, 9}, {math.MaxInt, 0, 0, 9},
		{2, 1, 1, 3}, {2, -1, 0, 2}, {2, math.MinInt, 0, 2}, {math.MinInt, math.MinInt, 0, 1},
		{1, 7, 7, 8}, {1, 8, 8, 9}, {2, 8, 8, 9}, {math.MaxInt, 8, 8, 9}, {math.MaxInt, 1, 1, 9},
		{1, 9, 9, 9}, {1, 10, 9, 9}, {1, math.MaxInt, 9, 9}, {1000, math.MaxInt, 9, 9}, {math.MaxInt, math.MaxInt, 9, 9},
	} {
		o := Op{Kind: Groups, By: []string{"a"}, N: c.n, Cursor: Cursor{At: c.at}}
		r := m.Do(o)
		want := Reply{Rev: 1, Groups: free(l[c.from:c.to]...)}
		if c.to < 9 {
			want.Next = Cursor{r.Next.Pin, c.to}
		}
		if show(r) != show(want) || r.Next.Pin == 0 && c.to < 9 {
			t.Errorf("%+v is\n%s\nnot\n%s", o, show(r), show(want))
		}
		if pins := m.Pins(); pins > 0 != (c.to < 9) {
			t.Errorf("%+v leaves %d pins", o, pins)
		}
		if c.to < 9 {
			// The same of a pin that is held.
			o.Cursor.Pin = r.Next.Pin
			expectDo(t, m, o, want)
			done(t, m, Op{Kind: Groups, Cursor: Cursor{o.Cursor.Pin, 9}})
		}
		expectStands(t, m, 1, 10, 0, 0)
	}
}

// P26.2: a page has at most 1000 groups.
func TestGroupsOfMany(t *testing.T) {
	var l []alert.Alert
	for i := range 1002 {
		l = append(l, one("a"+string(rune('0'+i%10))+"b"+string(rune('0'+i/10%10))+"c"+string(rune('0'+i/100%10))+"d"+string(rune('0'+i/1000)), 1, 90))
	}
	c := wide
	c.Keys = 2000
	m := New(c, 10)
	done(t, m, posting(l...))
	for n, want := range map[int]int{999: 999, 1000: 1000, 1001: 1000, 1002: 1000, 5000: 1000} {
		r := done(t, m, Op{Kind: Groups, By: []string{"a", "b", "c", "d"}, N: n})
		if len(r.Groups) != want || r.Next.At != want || r.Next.Pin == 0 {
			t.Errorf("%d of %d groups, then %+v", len(r.Groups), n, r.Next)
		}
		r = done(t, m, Op{Kind: Groups, By: []string{"a", "b", "c", "d"}, N: n, Cursor: r.Next})
		if len(r.Groups) != 1002-want || r.Next != (Cursor{}) {
			t.Errorf("%d of %d groups at last, then %+v", len(r.Groups), n, r.Next)
		}
	}
	expectStands(t, m, 1, 10, 0, 0)
}

// P26.2: pins at Pin 0 and another one: held, dropped, never given; and no room
// for one more.
func TestGroupsOfPins(t *testing.T) {
	c := wide
	c.Pins = 2
	m, l := many(t, c)
	page := Op{Kind: Groups, By: []string{"a"}, N: 4}
	first := expectDo(t, m, page, Reply{Rev: 1, Groups: free(l[:4]...), Next: Cursor{1, 4}})
	never := []Op{}
	for _, id := range []int64{math.MinInt64, -1, 2, 3, math.MaxInt64} {
		never = append(never, Op{Kind: Groups, By: []string{"a"}, N: 4, Cursor: Cursor{id, 0}}, Op{Kind: Groups, Cursor: Cursor{id, 4}})
	}
	expectRefused(t, m, api.ErrGone, never...)
	second := expectDo(t, m, page, Reply{Rev: 1, Groups: free(l[:4]...), Next: Cursor{2, 4}})
	// There is no room for one more, also for a page that would be whole.
	expectRefused(t, m, api.ErrFull, page, Op{Kind: Groups, N: 1000}, Op{Kind: Groups, Cursor: Cursor{0, 99}})
	page.Cursor = first.Next
	expectDo(t, m, page, Reply{Rev: 1, Groups: free(l[4:8]...), Next: Cursor{1, 8}})
	page.Cursor.At = 8
	expectDo(t, m, page, Reply{Rev: 1, Groups: free(l[8:]...)})
	expectStands(t, m, 1, 10, 0, 1)
	expectRefused(t, m, api.ErrGone, page)
	// Behind the last one nothing is told, and the pin goes, too.
	page.Cursor = second.Next
	page.Cursor.At = 99
	expectDo(t, m, page, Reply{Rev: 1})
	expectStands(t, m, 1, 10, 0, 0)
	expectRefused(t, m, api.ErrGone, page)
	page.Cursor = Cursor{}
	expectDo(t, m, page, Reply{Rev: 1, Groups: free(l[:4]...), Next: Cursor{3, 4}})
	// A whole page has had its pin, too.
	expectDo(t, m, Op{Kind: Groups, By: []string{"a"}, N: 9}, Reply{Rev: 1, Groups: free(l...)})
	expectDo(t, m, page, Reply{Rev: 1, Groups: free(l[:4]...), Next: Cursor{5, 4}})
}

// P26.2: a pin of a revision that is below the floor is gone.
func TestGroupsBelowFloor(t *testing.T) {
	m, l := many(t, wide)
	done(t, m, posting(l...))
	page := Op{Kind: Groups, By: []string{"a"}, N: 4}
	page.Cursor = done(t, m, page).Next
	m.store.Compact(2)
	expectDo(t, m, page, Reply{Rev: 2, Groups: free(l[4:8]...), Next: Cursor{1, 8}})
	done(t, m, posting(l...))
	m.store.Compact(3)
	expectRefused(t, m, api.ErrGone, page)
}

// P26.4: pages one behind the other tell the groups of one revision, with
// writes, ticks and compactions between.
func TestPages(t *testing.T) {
	c := Config{Keys: 12, Versions: 40, Log: 100, Pins: 3, Out: 100, Hold: 20, By: []string{"a"}}
	m, l := many(t, c)
	s := quiet(`{a=~"[3-5]"}`, 1, 15)
	done(t, m, posting(l[0]), creating(s))
	page := Op{Kind: Groups, By: []string{"a"}, N: 2}
	want := free(l...)
	for i := 2; i < 5; i++ {
		want[i] = held([]int64{1}, l[i])
	}
	for from := 0; from < 9; from += 2 {
		r := Reply{Rev: 3, Groups: want[from:min(from+2, 9)], Next: Cursor{1, from + 2}}
		if from == 8 {
			r.Next = Cursor{}
		}
		expectDo(t, m, page, r)
		page.Cursor = r.Next
		switch from {
		case 0:
			done(t, m, posting(one("a1", 1, 10)), posting(one("a8", 1, 95)), ticking(5))
			expectStands(t, m, 6, 15, 0, 1)
		case 2:
			done(t, m, posting(one("aA", 1, 99), one("a0", 1, 99)), creating(quiet(`{a=~".*"}`, 1, 99)))
		case 4:
			for m.Floor() == 0 {
				done(t, m, posting(one("a8", 1, 95), one("a9", 1, 95)))
			}
			// All from the pin on is kept.
			expectStands(t, m, m.Rev(), 15, 3, 1)
		case 6:
			done(t, m, ticking(19))
			expectStands(t, m, m.Rev(), 34, 3, 1)
		}
	}
	expectStands(t, m, m.Rev(), 34, 3, 0)
	expectDo(t, m, Op{Kind: Groups, By: []string{"b"}, N: 9, Filter: list(`{a=~"[018]"}`)}, Reply{Rev: m.Rev(), Groups: []group.Group{{Members: []group.Member{
		{Alert: one("a0", 1, 99), By: []int64{2}}, {Alert: one("a8", 1, 95), By: []int64{2}}}}}})
}

// P26.2: Watch below the floor, at it, between, at the last revision and above.
func TestWatchOfRevisions(t *testing.T) {
	m := New(Config{Keys: 9, Log: 3, By: []string{"a"}}, 10)
	for _, rev := range []int64{math.MinInt64, -1} {
		expectRefused(t, m, api.ErrGone, Op{Kind: Watch, Rev: rev})
	}
	expectRefused(t, m, api.ErrMore, Op{Kind: Watch})
	expectRefused(t, m, api.ErrArg, Op{Kind: Watch, Rev: 1}, Op{Kind: Watch, Rev: math.MaxInt64})
	a, b := one("a1", 1, 90), one("a2", 1, 90)
	done(t, m, posting(a), posting(b))
	expectLog(t, m, 0, clog.Entry{Rev: 1, Change: comes(a)}, clog.Entry{Rev: 2, Change: comes(b)})
	done(t, m, posting(a, b), posting(one("a2", 1, 9)))
	for _, rev := range []int64{math.MinInt64, -1, 0, 1} {
		expectRefused(t, m, api.ErrGone, Op{Kind: Watch, Rev: rev}, Op{Kind: Watch, Rev: rev, Filter: list(`{a="9"}`)})
	}
	third := []clog.Entry{{Rev: 3, Change: comes(a)}, {Rev: 3, Change: comes(b)}, {Rev: 4, Change: goes(b)}}
	for range 2 {
		expectLog(t, m, 2, third...)
		expectLog(t, m, 3, third[2:]...)
		expectLog(t, m, 4)
	}
	for _, rev := range []int64{5, 6, api.MaxRev, math.MaxInt64} {
		expectRefused(t, m, api.ErrArg, Op{Kind: Watch, Rev: rev}, Op{Kind: Watch, Rev: rev, Filter: list(`{a="9"}`)})
	}
}

// P26.2: Watch with a Filter, with none: of alerts' changes those whose labels
// fit, of silences' all.
func TestWatchOfFilters(t *testing.T) {
	m := New(wide, 10)
	a, b := one("a1b1", 1, 90), one("a2b1", 1, 20)
	s := as(quiet(`{a="9"}`, 1, 90), 1, silence.Active)
	done(t, m, posting(a, b))
	expectDo(t, m, Op{Kind: Watch, Filter: list(`{a="1"}`)}, Reply{Rev: 1, Entries: []clog.Entry{{Rev: 1, Change: comes(a)}}})
	expectRefused(t, m, api.ErrMore, Op{Kind: Watch, Filter: list(`{a="3"}`)}, Op{Kind: Watch, Filter: list(`{a="1",b="2"}`)})
	done(t, m, creating(s), ticking(10))
	all := []clog.Entry{{Rev: 1, Change: comes(a)}, {Rev: 1, Change: comes(b)}, {Rev: 2, Change: says(s)}, {Rev: 3, Change: goes(b)}}
	for text, want := range map[string][]clog.Entry{
		`{}`: all, `{b="1"}`: all, `{b!="2"}`: all, `{c=""}`: all, `{a=~"1|2"}`: all,
		`{a="1"}`: {all[0], all[2]}, `{a!="1"}`: {all[1], all[2], all[3]}, `{a="2",b="1"}`: {all[1], all[2], all[3]},
		`{a="2",b="2"}`: {all[2]}, `{a="9"}`: {all[2]}, `{c!=""}`: {all[2]},
	} {
		o := Op{Kind: Watch, Filter: list(text)}
		expectDo(t, m, o, Reply{Rev: 3, Entries: want})
		// Up to the last revision, even if what fits came ahead of it.
		o.Rev = 2
		if want[len(want)-1].Rev < 3 {
			expectRefused(t, m, api.ErrMore, o)
		} else {
			expectDo(t, m, o, Reply{Rev: 3, Entries: all[3:]})
		}
		o.Rev = 3
		expectRefused(t, m, api.ErrMore, o)
	}
	expectDo(t, m, Op{Kind: Watch}, Reply{Rev: 3, Entries: all})
	expectDo(t, m, Op{Kind: Watch, Filter: &match.List{}}, Reply{Rev: 3, Entries: all})
}

// P26.2: Out below, at and above what is kept.
func TestOut(t *testing.T) {
	m := New(Config{Keys: 9, Out: 3, By: []string{"a"}}, 10)
	expectRefused(t, m, api.ErrGone, Op{Kind: Out, Rev: -1}, Op{Kind: Out, Rev: math.MinInt64})
	expectDo(t, m, Op{Kind: Out}, Reply{})
	expectRefused(t, m, api.ErrArg, Op{Kind: Out, Rev: 1}, Op{Kind: Out, Rev: math.MaxInt64})
	done(t, m, posting(one("a1", 1, 90), one("a2b1", 1, 20)), posting(one("a2b2", 1, 90)), creating(quiet(`{b="2"}`, 1, 90)))
	expectDo(t, m, Op{Kind: Out}, Reply{Rev: 3, Notes: notes(1, 1, "+a1", "+a2")})
	// A group ends with the last of its alerts that nothing holds back.
	done(t, m, ticking(10))
	all := notes(1, 1, "+a1", "+a2", 4, "-a2")
	for i := range all {
		expectDo(t, m, Op{Kind: Out, Rev: int64(i)}, Reply{Rev: 4, Notes: all[i:]})
	}
	expectDo(t, m, Op{Kind: Out, Rev: 3}, Reply{Rev: 4})
	done(t, m, Op{Kind: Expire, ID: 1, Have: anyMark}, posting(one("a1", 1, 10)))
	all = append(all, notes(4, 5, "+a2", 6, "-a1")...)
	expectRefused(t, m, api.ErrGone, Op{Kind: Out}, Op{Kind: Out, Rev: 1}, Op{Kind: Out, Rev: -1})
	for i := 2; i <= 5; i++ {
		expectDo(t, m, Op{Kind: Out, Rev: int64(i)}, Reply{Rev: 6, Notes: all[i:]})
	}
	expectRefused(t, m, api.ErrArg, Op{Kind: Out, Rev: 6}, Op{Kind: Out, Rev: 7}, Op{Kind: Out, Rev: math.MaxInt64})
}

// P26.2: the outbox tells groups by the config's labels, whatever pages were
// asked for.
func TestOutByConfig(t *testing.T) {
	for _, c := range []struct {
		by   []string
		want []any
	}{
		{nil, []any{1, "+"}}, {[]string{"c"}, []any{1, "+"}},
		{[]string{"a"}, []any{1, "+a1", "+a2"}},
		{[]string{"b", "b"}, []any{1, "+b1", "+b2", 2, "-b1"}},
		{[]string{"b", "a"}, []any{1, "+a1b1", "+a1b2", "+a2b1", 2, "-a1b1", "-a2b1", "+a2b2"}},
	} {
		config := wide
		config.By = slices.Clone(c.by)
		m := New(config, 10)
		for i := range config.By {
			config.By[i] = "spoilt"
		}
		done(t, m, posting(one("a1b1", 1, 90), one("a1b2", 1, 90), one("a2b1", 1, 90)))
		done(t, m, Op{Kind: Groups, By: []string{"d"}, N: 9})
		done(t, m, posting(one("a1b1", 1, 10), one("a2b1", 1, 10), one("a2b2", 1, 90)))
		expectDo(t, m, Op{Kind: Out}, Reply{Rev: 2, Notes: notes(1, c.want...)})
	}
}

// Rules 4 and 5: no list is shared with who asks, none between answers.
func TestApart(t *testing.T) {
	by := []string{"a"}
	r := Right(Config{By: by})
	_ = append(r.By, "spoilt")
	r.By[0] = "spoilt"
	if by[0] != "a" {
		t.Errorf("the config became %q", by)
	}
	m, l := many(t, wide)
	handed := []alert.Alert{one("a8", 1, 80), one("a9", 1, 80)}
	have := marks(3)
	s := as(quiet(`{a="1"}`, 1, 90), 1, silence.Active)
	done(t, m, posting(handed...), creating(s), Op{Kind: Update, ID: 1, Have: have, Silence: s})
	handed[0] = one("spoilt", 1, 99)
	have.Tags[0].Text = "spoilt"
	l[7], l[8] = one("a8", 1, 80), one("a9", 1, 80)
	groups := append([]group.Group{held([]int64{1}, l[0])}, free(l[1:]...)...)
	for range 3 {
		expectAlerts(t, m, 4, l...)
		expectSilences(t, m, 4, s)
		alerts, _ := m.Alerts(4)
		silences, _ := m.Silences(4)
		by := []string{"a"}
		page := done(t, m, Op{Kind: Groups, By: by, N: 2})
		if cap(page.Groups) != 2 {
			t.Errorf("a page has room for %d", cap(page.Groups))
		}
		_ = append(page.Groups, group.Group{})
		by[0] = "spoilt"
		rest := expectDo(t, m, Op{Kind: Groups, By: []string{"a"}, N: 9, Cursor: page.Next}, Reply{Rev: 4, Groups: groups[2:]})
		watched := expectDo(t, m, Op{Kind: Watch, Rev: 2}, Reply{Rev: 4, Entries: []clog.Entry{{Rev: 3, Change: says(s)}, {Rev: 4, Change: says(s)}}})
		told := expectDo(t, m, Op{Kind: Out, Rev: 8}, Reply{Rev: 4, Notes: notes(9, 1, "+a9", 3, "-a1")})
		expectDo(t, m, Op{Kind: Groups, By: []string{"a"}, N: 9}, Reply{Rev: 4, Groups: groups})
		for _, g := range append(page.Groups, rest.Groups...) {
			_ = append(g.Members, group.Member{})
			for i := range g.Members {
				_ = append(g.Members[i].By, 9)
				clear(g.Members[i].By)
			}
			clear(g.Members)
		}
		clear(alerts)
		clear(silences)
		clear(page.Groups)
		clear(watched.Entries)
		clear(told.Notes)
		_ = append(told.Notes[:1], told.Notes[0])
		_ = append(watched.Entries[:1], watched.Entries[0])
		_ = append(alerts[:1], alerts[0])
		_ = append(silences, silences[0])
	}
}
