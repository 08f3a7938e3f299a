package core

import (
	"math"
	"testing"

	"larum/alert"
	"larum/api"
	"larum/clog"
	"larum/etag"
	"larum/silence"
)

// P26.2: Post of alerts, alone and several: they stand there by their keys, are
// told behind the revision ahead, and the outbox is told.
func TestPost(t *testing.T) {
	m := New(wide, 5)
	a, b, c := one("a2", 1, 9), one("a1b1", 2, 8), one("a1", 3, 7)
	expectDo(t, m, posting(a), Reply{Rev: 1})
	expectAlerts(t, m, 1, a)
	expectLog(t, m, 0, clog.Entry{Rev: 1, Change: comes(a)})
	expectDo(t, m, Op{Kind: Out}, Reply{Rev: 1, Notes: notes(1, 1, "+a2")})
	expectDo(t, m, posting(b, c), Reply{Rev: 2})
	expectAlerts(t, m, 2, b, c, a)
	// By their keys, in whatever order they were posted.
	expectLog(t, m, 1, clog.Entry{Rev: 2, Change: comes(b)}, clog.Entry{Rev: 2, Change: comes(c)})
	expectDo(t, m, Op{Kind: Out, Rev: 1}, Reply{Rev: 2, Notes: notes(2, 2, "+a1")})
	m = New(wide, 5)
	expectDo(t, m, posting(a, c, b), Reply{Rev: 1})
	expectAlerts(t, m, 1, b, c, a)
	expectLog(t, m, 0, clog.Entry{Rev: 1, Change: comes(b)}, clog.Entry{Rev: 1, Change: comes(c)}, clog.Entry{Rev: 1, Change: comes(a)})
	expectDo(t, m, Op{Kind: Out}, Reply{Rev: 1, Notes: notes(1, 1, "+a1", "+a2")})
	// One that is yet to begin stands there, and fires, too.
	expectDo(t, m, posting(one("a3", 50, 60)), Reply{Rev: 2})
	expectAlerts(t, m, 2, b, c, a, one("a3", 50, 60))
	expectDo(t, m, Op{Kind: Out, Rev: 2}, Reply{Rev: 2, Notes: notes(3, 2, "+a3")})
}

// P26.2: Post of no alerts, of one that is not right, also among others that
// are.
func TestPostRefused(t *testing.T) {
	m := New(wide, 5)
	done(t, m, posting(one("a1", 1, 9)))
	expectRefused(t, m, api.ErrArg, Op{Kind: Post}, posting([]alert.Alert{}...), Op{Kind: Post, Silence: quiet(`{a="1"}`, 1, 9), ID: 1, T: 1})
	for _, wrong := range []alert.Alert{
		{}, {Starts: 1, Ends: 9}, {Notes: set("a1"), Starts: 1, Ends: 9},
		{Labels: set("a1")}, one("a1", 9, 9), one("a1", 9, 8), one("a1", -1, 9), one("a1", -9, -1), one("a1", 1, 0),
		one("a1", math.MinInt64, math.MaxInt64), one("a1", 1, api.MaxTime+1), one("a1", api.MaxTime, api.MaxTime),
	} {
		expectRefused(t, m, api.ErrArg, posting(wrong), posting(wrong, one("a2", 1, 9)), posting(one("a2", 1, 9), wrong),
			posting(one("a2", 1, 9), wrong, one("a3", 1, 9)), posting(wrong, wrong))
	}
	expectDo(t, m, posting(one("a1", 0, api.MaxTime), one("a2", api.MaxTime-1, api.MaxTime)), Reply{Rev: 2})
}

// P26.2: one is merged with what stands there by its key.
func TestPostMerges(t *testing.T) {
	m := New(wide, 5)
	done(t, m, posting(one("a1", 5, 9), one("a2", 1, 7)))
	done(t, m, posting(one("a1", 7, 20)))
	expectAlerts(t, m, 2, one("a1", 5, 20), one("a2", 1, 7))
	done(t, m, posting(one("a1", 3, 6)))
	expectAlerts(t, m, 3, one("a1", 3, 6), one("a2", 1, 7))
	// Not if it begins behind the end of what stands there.
	done(t, m, posting(one("a1", 7, 30)))
	expectAlerts(t, m, 4, one("a1", 7, 30), one("a2", 1, 7))
	done(t, m, posting(one("a2", 7, 30)))
	expectAlerts(t, m, 5, one("a1", 7, 30), one("a2", 1, 30))
	// The same labels with other notes are the same; with one label more another.
	other := one("a1", 8, 40)
	other.Notes = set("ny")
	done(t, m, posting(other, one("a1b1", 9, 40)))
	other.Starts = 7
	expectAlerts(t, m, 6, one("a1b1", 9, 40), other, one("a2", 1, 30))
	// What is over is merged with none.
	done(t, m, ticking(25), posting(one("a2", 28, 90)))
	expectAlerts(t, m, 8, one("a1b1", 9, 40), other, one("a2", 28, 90))
	// The same once more is a change, too.
	expectDo(t, m, posting(one("a2", 28, 90)), Reply{Rev: 9})
	expectLog(t, m, 8, clog.Entry{Rev: 9, Change: comes(one("a2", 28, 90))})
	expectDo(t, m, Op{Kind: Out}, Reply{Rev: 9, Notes: notes(1, 1, "+a1", "+a2", 7, "-a2", 8, "+a2")})
}

// P26.2: several of one key in one call come one behind the other, and are one
// change.
func TestPostOfOneKeyTwice(t *testing.T) {
	for _, c := range []struct {
		stands, posted []alert.Alert
		want           alert.Alert // none, if it Ends at 0
	}{
		{nil, []alert.Alert{one("a1", 6, 20), one("a1", 8, 30)}, one("a1", 6, 30)},
		{nil, []alert.Alert{one("a1", 8, 30), one("a1", 6, 20)}, one("a1", 6, 20)},
		{nil, []alert.Alert{one("a1", 6, 12), one("a1", 13, 20)}, one("a1", 13, 20)},
		{nil, []alert.Alert{one("a1", 6, 12), one("a1", 12, 20), one("a1", 15, 25)}, one("a1", 6, 25)},
		{[]alert.Alert{one("a1", 2, 15)}, []alert.Alert{one("a1", 6, 20), one("a1", 18, 30)}, one("a1", 2, 30)},
		{[]alert.Alert{one("a1", 2, 15)}, []alert.Alert{one("a1", 16, 20), one("a1", 8, 30)}, one("a1", 8, 30)},
		{[]alert.Alert{one("a1", 2, 15)}, []alert.Alert{one("a1", 16, 20), one("a1", 16, 30), one("a1", 17, 18)}, one("a1", 16, 18)},
		// What has ended by the time counts just as long as nothing comes behind it.
		{nil, []alert.Alert{one("a1", 2, 10), one("a1", 11, 30)}, one("a1", 11, 30)},
		{nil, []alert.Alert{one("a1", 2, 10), one("a1", 10, 30)}, one("a1", 2, 30)},
		{nil, []alert.Alert{one("a1", 2, 30), one("a1", 4, 10)}, alert.Alert{}},
		{nil, []alert.Alert{one("a1", 2, 9), one("a1", 4, 10)}, alert.Alert{}},
		{[]alert.Alert{one("a1", 2, 15)}, []alert.Alert{one("a1", 6, 9), one("a1", 8, 30)}, one("a1", 2, 30)},
		{[]alert.Alert{one("a1", 2, 15)}, []alert.Alert{one("a1", 6, 30), one("a1", 8, 9)}, alert.Alert{}},
	} {
		m := New(wide, 10)
		rev := int64(0)
		if c.stands != nil {
			done(t, m, posting(c.stands...))
			rev++
		}
		handed := append([]alert.Alert{one("a0", 1, 99)}, c.posted...)
		done(t, m, posting(handed...))
		if showAlerts(handed[1:]) != showAlerts(c.posted) {
			t.Errorf("the alerts became %s", showAlerts(handed))
		}
		behind := []clog.Entry{{Rev: rev + 1, Change: comes(one("a0", 1, 99))}}
		switch {
		case c.want.Ends > 0:
			expectAlerts(t, m, rev+1, one("a0", 1, 99), c.want)
			behind = append(behind, clog.Entry{Rev: rev + 1, Change: comes(c.want)})
		case c.stands != nil:
			behind = append(behind, clog.Entry{Rev: rev + 1, Change: goes(c.stands[0])})
			fallthrough
		default:
			expectAlerts(t, m, rev+1, one("a0", 1, 99))
		}
		expectLog(t, m, rev, behind...)
	}
}

// P26.2: one that Ends ahead of the time, at it, and behind, with and without
// something that stands there.
func TestPostOfWhatIsOver(t *testing.T) {
	for _, ends := range []int64{3, 9, 10} {
		m := New(wide, 10)
		// Nothing stands there: nothing comes of it, and there is no revision.
		expectDo(t, m, posting(one("a1", 2, ends)), Reply{})
		expectDo(t, m, posting(one("a1", 2, ends), one("a2", 2, ends)), Reply{})
		expectStands(t, m, 0, 10, 0, 0)
		expectLog(t, m, 0)
		expectDo(t, m, Op{Kind: Out}, Reply{})
		done(t, m, posting(one("a1", 2, 20), one("a2", 2, 20)))
		expectDo(t, m, posting(one("a1", 2, ends)), Reply{Rev: 2})
		expectAlerts(t, m, 2, one("a2", 2, 20))
		expectAlerts(t, m, 1, one("a1", 2, 20), one("a2", 2, 20))
		expectLog(t, m, 1, clog.Entry{Rev: 2, Change: goes(one("a1", 2, 20))})
		expectDo(t, m, Op{Kind: Out, Rev: 2}, Reply{Rev: 2, Notes: notes(3, 2, "-a1")})
		// It is gone by now.
		expectDo(t, m, posting(one("a1", 2, ends)), Reply{Rev: 2})
		expectLog(t, m, 2)
		// Some go, some come, of some nothing comes.
		expectDo(t, m, posting(one("a3", 2, 11), one("a2", 2, ends), one("a1", 2, ends)), Reply{Rev: 3})
		expectAlerts(t, m, 3, one("a3", 2, 11))
		expectLog(t, m, 2, clog.Entry{Rev: 3, Change: goes(one("a2", 2, 20))}, clog.Entry{Rev: 3, Change: comes(one("a3", 2, 11))})
		expectDo(t, m, Op{Kind: Out, Rev: 3}, Reply{Rev: 3, Notes: notes(4, 3, "-a2", "+a3")})
	}
	m := New(wide, 10)
	expectDo(t, m, posting(one("a1", 2, 11)), Reply{Rev: 1})
	expectAlerts(t, m, 1, one("a1", 2, 11))
}

// P26.2: Create of a silence that is right: by the next ID, as it stands at the
// time; its mark is that of the revision.
func TestCreate(t *testing.T) {
	m := New(wide, 10)
	done(t, m, posting(one("a1", 2, 20), one("a2", 2, 20)))
	for i, c := range []struct {
		starts, ends int64
		state        string
	}{
		{5, 20, silence.Active}, {10, 11, silence.Active}, {11, 20, silence.Pending}, {11, 11, silence.Pending},
		{5, 10, silence.Expired}, {10, 10, silence.Expired}, {0, 0, silence.Expired}, {0, api.MaxTime, silence.Active},
	} {
		s := quiet(`{a="1"}`, c.starts, c.ends)
		// What is said of its ID and how it stands counts for nothing.
		s.ID, s.State = int64(7*i), "any"
		id, rev := int64(i+1), int64(i+2)
		s = done(t, m, posting(one("a9", 1, 20)), creating(s)).Silence
		rev += id
		if want := as(quiet(`{a="1"}`, c.starts, c.ends), id, c.state); s != want {
			t.Errorf("Create is %+v, not %+v", s, want)
		}
		expectDo(t, m, Op{Kind: Read, ID: id}, Reply{Rev: rev, Silence: s, Tag: etag.Of(rev)})
		expectLog(t, m, rev-1, clog.Entry{Rev: rev, Change: says(s)})
	}
	expectDo(t, m, Op{Kind: Out}, Reply{Rev: 17, Notes: notes(1, 1, "+a1", "+a2", 2, "+a9", 3, "-a1")})
	expectDo(t, m, creating(quiet(`{b="1"}`, 1, 99)), Reply{Rev: 18, Silence: as(quiet(`{b="1"}`, 1, 99), 9, silence.Active), Tag: etag.Of(18)})
}

// P26.2: Create of one that is not right; the next ID stays.
func TestCreateRefused(t *testing.T) {
	m := New(wide, 10)
	right := quiet(`{a="1"}`, 5, 20)
	wrong := []silence.Silence{{}, quiet("", 5, 20), quiet("{}", 5, 20), quiet(`{a="1",}`, 5, 20), quiet(`{a=~"("}`, 5, 20), quiet("a", 5, 20),
		quiet(`{a="1"}`, -1, 20), quiet(`{a="1"}`, 20, 19), quiet(`{a="1"}`, 5, api.MaxTime+1), quiet(`{a="1"}`, math.MinInt64, math.MaxInt64)}
	for range 3 {
		s := right
		s.ID = -1
		wrong = append(wrong, s)
		s = right
		s.By = "\xFF"
		wrong = append(wrong, s)
		s = right
		s.Note = "\xC3"
		wrong = append(wrong, s)
	}
	for i, s := range wrong {
		expectRefused(t, m, api.ErrArg, creating(s), Op{Kind: Create, Silence: s, Alerts: []alert.Alert{one("a1", 1, 99)}, ID: 1, Have: anyMark})
		id := int64(i + 1)
		expectDo(t, m, creating(right), Reply{Rev: id, Silence: as(right, id, silence.Active), Tag: etag.Of(id)})
	}
}

// P26.2: Read of an ID that there is, and that there is none; the mark is that
// of the revision of what stands there.
func TestRead(t *testing.T) {
	m := New(wide, 10)
	a, b := quiet(`{a="1"}`, 5, 20), quiet(`{b=~"x.*",c!="y"}`, 15, 30)
	done(t, m, creating(a), posting(one("a1", 1, 99)), creating(b))
	a, b = as(a, 1, silence.Active), as(b, 2, silence.Pending)
	for range 2 {
		expectDo(t, m, Op{Kind: Read, ID: 1}, Reply{Rev: 3, Silence: a, Tag: etag.Of(1)})
		expectDo(t, m, Op{Kind: Read, ID: 2, Have: marks(9)}, Reply{Rev: 3, Silence: b, Tag: etag.Of(3)})
		for _, id := range []int64{math.MinInt64, -2, -1, 0, 3, 4, 9999999999, 10000000000, 10000000001, math.MaxInt64} {
			for _, kind := range []int{Read, Update, Expire} {
				expectRefused(t, m, api.ErrNone, Op{Kind: kind, ID: id}, Op{Kind: kind, ID: id, Have: anyMark, Silence: a}, Op{Kind: kind, ID: id, Have: marks(1, 3), Silence: a})
			}
		}
	}
	// It stands as it does at the time.
	done(t, m, ticking(5))
	b.State = silence.Active
	expectDo(t, m, Op{Kind: Read, ID: 1}, Reply{Rev: 4, Silence: a, Tag: etag.Of(1)})
	expectDo(t, m, Op{Kind: Read, ID: 2}, Reply{Rev: 4, Silence: b, Tag: etag.Of(4)})
}

// P26.2: Update by marks that fit, alone, in lists of several and of any, and
// by those that do not.
func TestUpdateByMarks(t *testing.T) {
	m := New(wide, 10)
	done(t, m, creating(quiet(`{a="1"}`, 5, 20)), posting(one("a1", 1, 99)))
	weak := etag.Of(1)
	weak.Weak = true
	stale := []etag.List{{}, {Tags: []etag.Tag{}}, marks(2), marks(0), marks(-1), marks(2, 3, 4), {Tags: []etag.Tag{weak}}, {Tags: []etag.Tag{{}, {Text: "1"}, weak}}}
	to := quiet(`{a="2"}`, 5, 30)
	for _, have := range stale {
		expectRefused(t, m, api.ErrStale, Op{Kind: Update, ID: 1, Have: have, Silence: to}, Op{Kind: Expire, ID: 1, Have: have})
	}
	rev := int64(1)
	for i, have := range []func() etag.List{
		func() etag.List { return marks(rev) },
		func() etag.List { return marks(7, rev, 9) },
		func() etag.List { return etag.List{Tags: []etag.Tag{weak, {}, etag.Of(rev)}} },
		func() etag.List { return anyMark },
		func() etag.List { return etag.List{Any: true, Tags: []etag.Tag{{}}} },
	} {
		o := Op{Kind: Update, ID: 1, Have: have(), Silence: to}
		rev = int64(i + 3)
		expectDo(t, m, o, Reply{Rev: rev, Silence: as(to, 1, silence.Active), Tag: etag.Of(rev)})
		expectSilences(t, m, rev, as(to, 1, silence.Active))
		expectLog(t, m, rev-1, clog.Entry{Rev: rev, Change: says(as(to, 1, silence.Active))})
		if !o.Have.Any {
			expectRefused(t, m, api.ErrStale, o)
		}
	}
	expectDo(t, m, Op{Kind: Expire, ID: 1, Have: marks(rev)}, Reply{Rev: 8, Silence: as(quiet(`{a="2"}`, 5, 10), 1, silence.Expired), Tag: etag.Of(8)})
	expectRefused(t, m, api.ErrStale, Op{Kind: Expire, ID: 1, Have: marks(rev)})
	expectRefused(t, m, api.ErrState, Op{Kind: Expire, ID: 1, Have: marks(8)}, Op{Kind: Expire, ID: 1, Have: anyMark})
}

// P26.2: Update's errors in their order: no such silence, its mark, what is not
// right, how the old one stands, what is over.
func TestUpdateRefused(t *testing.T) {
	m := New(wide, 10)
	done(t, m, creating(quiet(`{a="1"}`, 5, 20)), creating(quiet(`{a="1"}`, 15, 20)), creating(quiet(`{a="1"}`, 5, 10)))
	const active, pending, expired = 1, 2, 3
	wrong, other, over := quiet("{}", 5, 9), quiet(`{a="1"}`, 6, 9), quiet(`{a="1"}`, 5, 9)
	for _, s := range []silence.Silence{wrong, other, over} {
		expectRefused(t, m, api.ErrNone, Op{Kind: Update, ID: 4, Have: marks(9), Silence: s})
		for id := range int64(4) {
			expectRefused(t, m, map[bool]api.Errno{true: api.ErrNone, false: api.ErrStale}[id == 0], Op{Kind: Update, ID: id, Have: marks(9), Silence: s})
		}
	}
	for id := range int64(3) {
		expectRefused(t, m, api.ErrArg, Op{Kind: Update, ID: id + 1, Have: anyMark, Silence: wrong})
	}
	expectRefused(t, m, api.ErrState,
		Op{Kind: Update, ID: active, Have: anyMark, Silence: other},
		Op{Kind: Update, ID: expired, Have: anyMark, Silence: over},
		Op{Kind: Update, ID: expired, Have: anyMark, Silence: quiet(`{a="1"}`, 5, 30)})
	expectRefused(t, m, api.ErrArg,
		Op{Kind: Update, ID: active, Have: anyMark, Silence: over},
		Op{Kind: Update, ID: pending, Have: anyMark, Silence: over})
	expectStands(t, m, 3, 10, 0, 0)
}

// P26.2: what an Update says stands there, by the ID that was asked for, as it
// does at the time; it holds back from then on.
func TestUpdate(t *testing.T) {
	m := New(wide, 10)
	done(t, m, posting(one("a1", 1, 99), one("a2", 1, 99)), creating(quiet(`{a="1"}`, 5, 20)), creating(quiet(`{a="9"}`, 15, 20)))
	expectDo(t, m, Op{Kind: Out}, Reply{Rev: 3, Notes: notes(1, 1, "+a1", "+a2", 2, "-a1")})
	to := silence.Silence{ID: 77, Match: `{a="2"}`, Starts: 5, Ends: 10, By: "me", Note: "", State: "any"}
	want := as(to, 1, silence.Expired)
	expectDo(t, m, Op{Kind: Update, ID: 1, Have: marks(2), Silence: to}, Reply{Rev: 4, Silence: want, Tag: etag.Of(4)})
	expectSilences(t, m, 4, want, as(quiet(`{a="9"}`, 15, 20), 2, silence.Pending))
	expectSilences(t, m, 3, as(quiet(`{a="1"}`, 5, 20), 1, silence.Active), as(quiet(`{a="9"}`, 15, 20), 2, silence.Pending))
	to.Starts, to.Ends = 0, 12
	want = as(to, 2, silence.Active)
	expectDo(t, m, Op{Kind: Update, ID: 2, Have: marks(3), Silence: to}, Reply{Rev: 5, Silence: want, Tag: etag.Of(5)})
	expectDo(t, m, Op{Kind: Out, Rev: 3}, Reply{Rev: 5, Notes: notes(4, 4, "+a1", 5, "-a2")})
	expectDo(t, m, Op{Kind: Read, ID: 2}, Reply{Rev: 5, Silence: want, Tag: etag.Of(5)})
}

// P26.2: Expire of one that is active, pending, expired.
func TestExpire(t *testing.T) {
	m := New(wide, 10)
	done(t, m, posting(one("a1", 1, 99)), creating(quiet(`{a="1"}`, 5, 20)), creating(quiet(`{a="1"}`, 15, 20)), creating(quiet(`{a="1"}`, 5, 9)))
	// What is said of a silence counts for nothing.
	for id, want := range []silence.Silence{as(quiet(`{a="1"}`, 5, 10), 1, silence.Expired), as(quiet(`{a="1"}`, 10, 10), 2, silence.Expired)} {
		rev := int64(id + 5)
		o := Op{Kind: Expire, ID: int64(id + 1), Have: marks(int64(id + 2)), Silence: quiet(`{b="1"}`, 1, 50)}
		expectDo(t, m, o, Reply{Rev: rev, Silence: want, Tag: etag.Of(rev)})
		expectDo(t, m, Op{Kind: Read, ID: int64(id + 1)}, Reply{Rev: rev, Silence: want, Tag: etag.Of(rev)})
		expectLog(t, m, rev-1, clog.Entry{Rev: rev, Change: says(want)})
		expectRefused(t, m, api.ErrState, Op{Kind: Expire, ID: int64(id + 1), Have: marks(rev)})
	}
	expectRefused(t, m, api.ErrState, Op{Kind: Expire, ID: 3, Have: marks(4)}, Op{Kind: Expire, ID: 3, Have: anyMark})
	expectRefused(t, m, api.ErrStale, Op{Kind: Expire, ID: 3, Have: marks(3)})
	expectDo(t, m, Op{Kind: Out}, Reply{Rev: 6, Notes: notes(1, 1, "+a1", 2, "-a1", 5, "+a1")})
}

// P26.2: Tick of T below 1, of 1, of a great one, at the last time there is.
func TestTickOfTimes(t *testing.T) {
	m := New(wide, 10)
	for _, n := range []int64{0, -1, -10, math.MinInt64} {
		expectRefused(t, m, api.ErrArg, ticking(n))
	}
	expectDo(t, m, ticking(1), Reply{})
	expectStands(t, m, 0, 11, 0, 0)
	expectDo(t, m, ticking(100), Reply{})
	expectStands(t, m, 0, 111, 0, 0)
	done(t, m, posting(one("a1", 1, api.MaxTime)), creating(quiet(`{b="1"}`, api.MaxTime, api.MaxTime)))
	expectDo(t, m, ticking(api.MaxTime-112), Reply{Rev: 2})
	expectStands(t, m, 2, api.MaxTime-1, 0, 0)
	for _, n := range []int64{1, 2, api.MaxTime, api.MaxTime + 1, math.MaxInt64, 1} {
		expectDo(t, m, ticking(n), Reply{Rev: 3})
		expectStands(t, m, 3, api.MaxTime, 0, 0)
	}
	expectAlerts(t, m, 3)
	expectSilences(t, m, 3, as(quiet(`{b="1"}`, api.MaxTime, api.MaxTime), 1, silence.Expired))
	expectRefused(t, m, api.ErrArg, ticking(0), ticking(math.MinInt64))
	for _, n := range []int64{api.MaxTime - 9, api.MaxTime, math.MaxInt64 - 10, math.MaxInt64} {
		m := New(wide, 10)
		expectDo(t, m, ticking(n), Reply{})
		expectStands(t, m, 0, min(n, api.MaxTime-10)+10, 0, 0)
	}
}

// P26.2: alerts that end by then go, others stay; silences stand as they do by
// then; all of it is one revision, by the keys.
func TestTick(t *testing.T) {
	m := New(wide, 10)
	alerts := []alert.Alert{one("a1", 1, 11), one("a2", 1, 12), one("a3", 1, 13), one("a4", 12, 40), one("a5", 30, 40)}
	done(t, m, posting(alerts...))
	var all []silence.Silence
	for i, s := range []silence.Silence{
		quiet(`{a="4"}`, 5, 11), quiet(`{a="4"}`, 5, 12), quiet(`{a="4"}`, 5, 13), quiet(`{a="5"}`, 12, 20),
		quiet(`{a="5"}`, 11, 12), quiet(`{a="5"}`, 13, 20), quiet(`{a="3"}`, 1, 2), quiet(`{a="5"}`, 12, 12),
	} {
		done(t, m, creating(s))
		all = append(all, silence.At(as(s, int64(i+1), ""), 10))
	}
	expectDo(t, m, ticking(2), Reply{Rev: 10})
	expectStands(t, m, 10, 12, 0, 0)
	expectAlerts(t, m, 10, alerts[2:]...)
	want := []clog.Entry{{Rev: 10, Change: goes(alerts[0])}, {Rev: 10, Change: goes(alerts[1])}}
	for i, state := range []string{silence.Expired, silence.Expired, "", silence.Active, silence.Expired, "", "", silence.Expired} {
		if state != "" {
			all[i].State = state
			want = append(want, clog.Entry{Rev: 10, Change: says(all[i])})
		}
	}
	expectSilences(t, m, 10, all...)
	expectLog(t, m, 9, want...)
	expectDo(t, m, Op{Kind: Out, Rev: 5}, Reply{Rev: 10, Notes: notes(6, 2, "-a4", 10, "-a1", "-a2", "-a5")})
	// Nothing ends, nothing begins: no revision.
	m = New(wide, 10)
	done(t, m, posting(alerts...), creating(quiet(`{a="4"}`, 5, 20)))
	expectDo(t, m, posting(one("a1", 1, 20), one("a2", 1, 21), one("a3", 1, 22)), Reply{Rev: 3})
	expectDo(t, m, ticking(9), Reply{Rev: 3})
	expectLog(t, m, 3)
	expectStands(t, m, 3, 19, 0, 0)
	expectDo(t, m, ticking(1), Reply{Rev: 4})
	expectLog(t, m, 3, clog.Entry{Rev: 4, Change: goes(alerts[0])}, clog.Entry{Rev: 4, Change: says(as(quiet(`{a="4"}`, 5, 20), 1, silence.Expired))})
}

// P26.2: pins whose time is over go with a Tick, whatever else it changes.
func TestTickOfPins(t *testing.T) {
	c := wide
	c.Hold = 5
	m := New(c, 10)
	done(t, m, posting(one("a1", 1, 99), one("a2", 1, 99)))
	page := Op{Kind: Groups, By: []string{"a"}, N: 1}
	first := done(t, m, page)
	done(t, m, ticking(2))
	second := done(t, m, page)
	expectStands(t, m, 1, 12, 0, 2)
	done(t, m, ticking(2))
	expectStands(t, m, 1, 14, 0, 2)
	done(t, m, ticking(1))
	expectStands(t, m, 1, 15, 0, 1)
	expectRefused(t, m, api.ErrGone, Op{Kind: Groups, Cursor: first.Next})
	// Each page holds it for as long again.
	page.Cursor = second.Next
	page.Cursor.At = 0
	done(t, m, ticking(1), page, ticking(4))
	expectStands(t, m, 1, 20, 0, 1)
	done(t, m, ticking(1))
	expectStands(t, m, 1, 21, 0, 0)
	expectRefused(t, m, api.ErrGone, page)
}
