package core

import (
	"fmt"
	"math"
	"slices"
	"strings"
	"testing"

	"larum/alert"
	"larum/api"
	"larum/clog"
	"larum/etag"
	"larum/group"
	"larum/label"
	"larum/match"
	"larum/mv"
	"larum/note"
	"larum/silence"
)

// wide is a config that no test here comes to the limits of.
var wide = Config{Keys: 1000, Versions: 100000, Log: 1000, Pins: 100, Out: 1000, Hold: 1000, By: []string{"a"}}

// set: labels of one byte each, values of one byte, as a1b2.
func set(s string) label.Set {
	var pairs []label.Pair
	for i := 0; i+1 < len(s); i += 2 {
		pairs = append(pairs, label.Pair{Name: s[i : i+1], Value: s[i+1 : i+2]})
	}
	l, e := label.Of(pairs...)
	if e != api.OK {
		panic(s)
	}
	return l
}

// one: an alert of such labels.
func one(s string, starts, ends int64) alert.Alert {
	return alert.Alert{Labels: set(s), Notes: set("nx"), Starts: starts, Ends: ends}
}

// quiet: a silence of a list's text.
func quiet(s string, starts, ends int64) silence.Silence {
	return silence.Silence{Match: s, Starts: starts, Ends: ends, By: "by", Note: "note"}
}

// list: the list whose text s is.
func list(s string) *match.List {
	l, e := match.Parse(s)
	if e != api.OK {
		panic(s)
	}
	return l
}

// marks: a list of the marks of these numbers.
func marks(l ...int64) etag.List {
	var all etag.List
	for _, n := range l {
		all.Tags = append(all.Tags, etag.Of(n))
	}
	return all
}

// anyMark is a list that has all marks.
var anyMark = etag.List{Any: true}

func showAlerts(l []alert.Alert) string {
	var all []string
	for _, a := range l {
		all = append(all, fmt.Sprint(a.Labels, a.Notes, a.Starts, a.Ends))
	}
	return strings.Join(all, "; ")
}

func showGroups(l []group.Group) string {
	var all []string
	for _, g := range l {
		var of []string
		for _, x := range g.Members {
			of = append(of, showAlerts([]alert.Alert{x.Alert})+fmt.Sprint(x.By))
		}
		all = append(all, g.Key.String()+": "+strings.Join(of, ", "))
	}
	return strings.Join(all, "; ")
}

// show: all of a reply, one that is empty as one that is nil.
func show(r Reply) string {
	return fmt.Sprintf("code %d at %d, silence %+v %+v, groups %s, next %+v, entries %+v, notes %+v",
		int(r.Code), r.Rev, r.Silence, r.Tag, showGroups(r.Groups), r.Next, r.Entries, r.Notes)
}

// state: all that a machine tells of how it stands, but for its floor.
func state(m *Machine) string {
	a, ea := m.Alerts(m.Rev())
	s, es := m.Silences(m.Rev())
	return fmt.Sprintf("at %d, %d, %d pins: %s, %+v, %d, %d", m.Rev(), m.Now(), m.Pins(), showAlerts(a), s, int(ea), int(es))
}

func expectDo(t *testing.T, m *Machine, o Op, want Reply) Reply {
	t.Helper()
	r := m.Do(o)
	if show(r) != show(want) {
		t.Errorf("%+v is\n%s\nnot\n%s", o, show(r), show(want))
	}
	return r
}

// expectRefused: this error alone is told of what is asked, and nothing changes.
func expectRefused(t *testing.T, m *Machine, want api.Errno, l ...Op) {
	t.Helper()
	for _, o := range l {
		ahead, floor := state(m), m.Floor()
		expectDo(t, m, o, Reply{Code: want})
		if now := state(m); now != ahead || m.Floor() != floor && want != api.ErrFull {
			t.Errorf("%+v left it\n%s\nnot\n%s", o, now, ahead)
		}
	}
}

func expectAlerts(t *testing.T, m *Machine, rev int64, want ...alert.Alert) {
	t.Helper()
	if got, e := m.Alerts(rev); showAlerts(got) != showAlerts(want) || e != api.OK {
		t.Errorf("Alerts(%d) is %s, %d, not %s", rev, showAlerts(got), int(e), showAlerts(want))
	}
}

func expectSilences(t *testing.T, m *Machine, rev int64, want ...silence.Silence) {
	t.Helper()
	if got, e := m.Silences(rev); !slices.Equal(got, want) || e != api.OK {
		t.Errorf("Silences(%d) is %+v, %d, not %+v", rev, got, int(e), want)
	}
}

func expectStands(t *testing.T, m *Machine, rev, now, floor int64, pins int) {
	t.Helper()
	if m.Rev() != rev || m.Now() != now || m.Floor() != floor || m.Pins() != pins {
		t.Errorf("it stands at %d, %d, %d, %d, not at %d, %d, %d, %d", m.Rev(), m.Now(), m.Floor(), m.Pins(), rev, now, floor, pins)
	}
}

// done: what is asked is done, whatever it tells.
func done(t *testing.T, m *Machine, l ...Op) Reply {
	t.Helper()
	var r Reply
	for _, o := range l {
		if r = m.Do(o); r.Code != api.OK {
			t.Fatalf("%+v is %d", o, int(r.Code))
		}
	}
	return r
}

func posting(l ...alert.Alert) Op { return Op{Kind: Post, Alerts: l} }

func creating(s silence.Silence) Op { return Op{Kind: Create, Silence: s} }

func ticking(n int64) Op { return Op{Kind: Tick, T: n} }

// as: a silence by an ID, in a state.
func as(s silence.Silence, id int64, state string) silence.Silence {
	s.ID, s.State = id, state
	return s
}

// Changes of the store: an alert comes, and goes; a silence says so.
func comes(a alert.Alert) mv.Change { return mv.Change{Key: alert.Key(a), Val: alert.Encode(a)} }

func goes(a alert.Alert) mv.Change { return mv.Change{Key: alert.Key(a), Gone: true} }

func says(s silence.Silence) mv.Change {
	return mv.Change{Key: silence.Key(s.ID), Val: silence.Encode(s)}
}

// notes: what is told from a number on, each revision ahead of its groups: of
// +a1 that the group of these labels fires, of -a1 that it does not any more.
func notes(seq int64, l ...any) []note.Entry {
	var all []note.Entry
	var rev int
	for _, x := range l {
		switch x := x.(type) {
		case int:
			rev = x
		case string:
			all = append(all, note.Entry{Seq: seq + int64(len(all)), Rev: int64(rev), Group: set(x[1:]).String(), Firing: x[0] == '+'})
		}
	}
	return all
}

// expectLog: just these entries are told behind a revision, up to the store's.
func expectLog(t *testing.T, m *Machine, rev int64, want ...clog.Entry) {
	t.Helper()
	if len(want) == 0 {
		expectRefused(t, m, api.ErrMore, Op{Kind: Watch, Rev: rev})
		return
	}
	expectDo(t, m, Op{Kind: Watch, Rev: rev}, Reply{Rev: m.Rev(), Entries: want})
}

// P26.1: configs below, within and beyond each bound.
func TestRight(t *testing.T) {
	least := Config{Keys: 1, Versions: 2, Log: 1, Pins: 1, Out: 1, Stay: 1, Hold: 1}
	most := Config{Keys: 100000, Versions: 1000000, Log: 1000000, Pins: 1000, Out: 1000000, Stay: 100000000, Hold: 100000000}
	for _, c := range []struct{ c, want Config }{
		{Config{}, least},
		{least, least},
		{Config{-1, -1, -1, -1, -1, -1, -1, nil}, least},
		{Config{math.MinInt, math.MinInt, math.MinInt, math.MinInt, math.MinInt, math.MinInt64, math.MinInt64, nil}, least},
		{most, most},
		{Config{100001, 1000001, 1000001, 1001, 1000001, 100000001, 100000001, nil}, most},
		{Config{math.MaxInt, math.MaxInt, math.MaxInt, math.MaxInt, math.MaxInt, math.MaxInt64, math.MaxInt64, nil}, most},
		{Config{99999, 999999, 999999, 999, 999999, 99999999, 99999999, nil}, Config{99999, 999999, 999999, 999, 999999, 99999999, 99999999, nil}},
		{Config{2, 3, 2, 2, 2, 2, 2, nil}, Config{2, 4, 2, 2, 2, 2, 2, nil}},
		{Config{2, 4, 2, 2, 2, 2, 2, nil}, Config{2, 4, 2, 2, 2, 2, 2, nil}},
		{Config{2, 5, 2, 2, 2, 2, 2, nil}, Config{2, 5, 2, 2, 2, 2, 2, nil}},
		{Config{0, 3, 3, 4, 5, 6, 7, nil}, Config{1, 3, 3, 4, 5, 6, 7, nil}},
		// Versions are from twice the Keys that are within their bounds on.
		{Config{-7, 0, 1, 1, 1, 1, 1, nil}, least},
		{Config{100000, 199999, 1, 1, 1, 1, 1, nil}, Config{100000, 200000, 1, 1, 1, 1, 1, nil}},
		{Config{200000, 300000, 1, 1, 1, 1, 1, nil}, Config{100000, 300000, 1, 1, 1, 1, 1, nil}},
		{Config{math.MaxInt, 1, 1, 1, 1, 1, 1, nil}, Config{100000, 200000, 1, 1, 1, 1, 1, nil}},
	} {
		for _, by := range [][]string{nil, {}, {"a"}, {"b", "a", "a", "", "\xFF"}} {
			c.c.By, c.want.By = by, by
			if got := Right(c.c); fmt.Sprint(got) != fmt.Sprint(c.want) || !slices.Equal(got.By, by) {
				t.Errorf("Right(%+v) is %+v, not %+v", c.c, got, c.want)
			}
			if twice := Right(Right(c.c)); fmt.Sprint(twice) != fmt.Sprint(c.want) {
				t.Errorf("Right of Right(%+v) is %+v", c.c, twice)
			}
		}
	}
}

// P26.1: a new machine, at a time that is one, and below and above all.
func TestNew(t *testing.T) {
	for now, want := range map[int64]int64{
		math.MinInt64: 0, -1: 0, 0: 0, 1: 1, 77: 77, api.MaxTime - 1: api.MaxTime - 1,
		api.MaxTime: api.MaxTime, api.MaxTime + 1: api.MaxTime, math.MaxInt64: api.MaxTime,
	} {
		for _, c := range []Config{{}, wide, {Keys: math.MinInt, Versions: -1, Pins: -9}, {Keys: math.MaxInt, Log: math.MaxInt, Pins: math.MaxInt, Hold: math.MaxInt64}} {
			m := New(c, now)
			expectStands(t, m, 0, want, 0, 0)
			expectAlerts(t, m, 0)
			expectSilences(t, m, 0)
			expectLog(t, m, 0)
			expectDo(t, m, Op{Kind: Out}, Reply{})
			expectRefused(t, m, api.ErrNone, Op{Kind: Read, ID: 1}, Op{Kind: Read})
			expectDo(t, m, Op{Kind: Groups}, Reply{})
			expectStands(t, m, 0, want, 0, 0)
		}
	}
}

// P26.1: a machine is by its config within its bounds: so many keys, versions,
// entries, pins; so long a page is held; groups are told by these labels.
func TestNewOfLimits(t *testing.T) {
	m := New(Config{Keys: 2, Versions: -5, Log: 2, Pins: 0, Out: 3, Hold: -1, By: []string{"b"}}, 0)
	done(t, m, posting(one("a1b1", 0, 9)), posting(one("a2b2", 0, 9)))
	expectRefused(t, m, api.ErrFull, posting(one("a3b3", 0, 9)))
	done(t, m, posting(one("a1b1", 0, 9)), posting(one("a2b2", 0, 9)))
	expectStands(t, m, 4, 0, 2, 0)
	expectRefused(t, m, api.ErrGone, Op{Kind: Watch, Rev: 1})
	expectLog(t, m, 2, clog.Entry{Rev: 3, Change: comes(one("a1b1", 0, 9))}, clog.Entry{Rev: 4, Change: comes(one("a2b2", 0, 9))})
	expectDo(t, m, Op{Kind: Out}, Reply{Rev: 4, Notes: notes(1, 1, "+b1", 2, "+b2")})
	p := done(t, m, Op{Kind: Groups, By: []string{"a"}, N: 1})
	expectStands(t, m, 4, 0, 2, 1)
	expectRefused(t, m, api.ErrFull, Op{Kind: Groups, N: 9})
	done(t, m, ticking(1))
	expectStands(t, m, 4, 1, 2, 0)
	expectRefused(t, m, api.ErrGone, Op{Kind: Groups, Cursor: p.Next})
}

// P26.1: Alerts and Silences of a revision below 0, below the floor, at it,
// between, at the last one and above.
func TestWhatStandsThere(t *testing.T) {
	m := New(Config{Keys: 3, Versions: 6, Log: 9, Pins: 9, Out: 9, Hold: 100, By: []string{"a"}}, 5)
	a, b := one("b2", 1, 30), one("a1", 0, 20)
	s := as(quiet(`{a="1"}`, 0, 40), 1, silence.Active)
	done(t, m, posting(a), posting(b), creating(s))
	changed := quiet(`{a="1"}`, 0, 50)
	done(t, m, Op{Kind: Update, ID: 1, Have: anyMark, Silence: changed})
	changed = as(changed, 1, silence.Active)
	expectStands(t, m, 4, 5, 0, 0)
	for range 2 {
		expectAlerts(t, m, 0)
		expectSilences(t, m, 0)
		expectAlerts(t, m, 1, a)
		expectAlerts(t, m, 2, b, a)
		expectSilences(t, m, 2)
		expectAlerts(t, m, 3, b, a)
		expectSilences(t, m, 3, s)
		expectAlerts(t, m, 4, b, a)
		expectSilences(t, m, 4, changed)
	}
	done(t, m, ticking(20), posting(one("b2", 1, 40)))
	expectStands(t, m, 6, 25, 0, 0)
	done(t, m, posting(one("a9", 1, 90)))
	expectStands(t, m, 7, 25, 6, 0)
	expectAlerts(t, m, 7, one("a9", 1, 90), one("b2", 1, 40))
	expectSilences(t, m, 7, changed)
	expectAlerts(t, m, 6, one("b2", 1, 40))
	for rev, want := range map[int64]api.Errno{
		math.MinInt64: api.ErrArg, -1: api.ErrArg, 0: api.ErrGone, 4: api.ErrGone, 5: api.ErrGone,
		8: api.ErrArg, 9: api.ErrArg, api.MaxRev: api.ErrArg, math.MaxInt64: api.ErrArg,
	} {
		if l, e := m.Alerts(rev); len(l) != 0 || e != want {
			t.Errorf("Alerts(%d) is %+v, %d, not %d", rev, l, int(e), int(want))
		}
		if l, e := m.Silences(rev); len(l) != 0 || e != want {
			t.Errorf("Silences(%d) is %+v, %d, not %d", rev, l, int(e), int(want))
		}
	}
}

// P26.2: of all other kinds ErrArg.
func TestOtherKinds(t *testing.T) {
	m := New(wide, 7)
	done(t, m, posting(one("a1", 0, 9)), creating(quiet(`{a="1"}`, 0, 9)))
	for _, kind := range []int{math.MinInt, -9, -1, 0, 10, 11, 1 << 32, 1<<32 + 1, math.MaxInt} {
		expectRefused(t, m, api.ErrArg, Op{Kind: kind},
			Op{Kind: kind, Alerts: []alert.Alert{one("a2", 0, 9)}, Silence: quiet(`{a="1"}`, 0, 9), ID: 1, Have: anyMark, N: 1, Rev: 1, T: 1})
	}
	expectStands(t, m, 2, 7, 0, 0)
}

// Of a nil machine: a Reply of ErrNil, 0, nothing and ErrNil.
func TestNilMachine(t *testing.T) {
	var m *Machine
	for kind := -1; kind < 11; kind++ {
		expectDo(t, m, Op{Kind: kind}, Reply{Code: api.ErrNil})
		expectDo(t, m, Op{Kind: kind, Alerts: []alert.Alert{one("a2", 0, 9)}, Silence: quiet(`{a="1"}`, 0, 9), ID: 1, Have: anyMark, N: 1, T: 1}, Reply{Code: api.ErrNil})
	}
	expectStands(t, m, 0, 0, 0, 0)
	for _, rev := range []int64{math.MinInt64, -1, 0, 1, math.MaxInt64} {
		if l, e := m.Alerts(rev); len(l) != 0 || e != api.ErrNil {
			t.Errorf("Alerts(%d) is %+v, %d", rev, l, int(e))
		}
		if l, e := m.Silences(rev); len(l) != 0 || e != api.ErrNil {
			t.Errorf("Silences(%d) is %+v, %d", rev, l, int(e))
		}
	}
}

// P1: a machine that is made by hand is as New makes it of nothing.
func TestMachineByHand(t *testing.T) {
	for kind := range 11 {
		m := &Machine{}
		expectStands(t, m, 0, 0, 0, 0)
		o := Op{Kind: kind, Alerts: []alert.Alert{one("a2", 0, 9)}, Silence: quiet(`{a="1"}`, 0, 9), ID: 1, Have: anyMark, N: 1, T: 3}
		expectDo(t, m, o, New(Config{}, 0).Do(o))
		m = &Machine{}
		expectAlerts(t, m, 0)
		expectSilences(t, &Machine{}, 0)
		expectDo(t, m, posting(one("a1", 0, 9)), Reply{Rev: 1})
		expectDo(t, m, posting(one("a1", 0, 9)), Reply{Rev: 2})
		expectDo(t, m, ticking(9), Reply{Rev: 3})
		expectStands(t, m, 3, 9, 2, 0)
	}
}

// P26.3 and example 1: of writes that have one mark one is done.
func TestExample(t *testing.T) {
	m := New(wide, 0)
	s := quiet(`{a="1"}`, 0, 9)
	r := done(t, m, creating(s))
	o := Op{Kind: Update, ID: 1, Have: etag.List{Tags: []etag.Tag{r.Tag}}, Silence: s}
	expectDo(t, m, o, Reply{Rev: 2, Silence: as(s, 1, silence.Active), Tag: etag.Of(2)})
	expectRefused(t, m, api.ErrStale, o)
	o.Kind = Expire
	expectRefused(t, m, api.ErrStale, o)
}
