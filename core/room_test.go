package core

import (
	"fmt"
	"testing"

	"larum/alert"
	"larum/api"
	"larum/clog"
	"larum/etag"
	"larum/group"
	"larum/silence"
)

// narrow is room for four keys and eight versions.
var narrow = Config{Keys: 4, Versions: 8, Log: 100, Pins: 5, Out: 100, Hold: 1000, By: []string{"a"}}

// paging asks for the first one of several groups, so that a pin is held.
var paging = Op{Kind: Groups, By: []string{"a"}, N: 1}

// full: a machine without room for one more version: three alerts and a
// silence, at the revision 5; one that is pinned stands behind the number of
// writes at which it was.
func full(t *testing.T, pinned ...int) *Machine {
	t.Helper()
	m := New(narrow, 10)
	for i, o := range []Op{
		posting(one("a1", 1, 90), one("a2", 1, 90)), creating(quiet(`{a="9"}`, 1, 90)),
		posting(one("a3", 1, 90), one("a1", 1, 91)), posting(one("a1", 1, 92)), posting(one("a1", 1, 93), one("a2", 1, 93)),
	} {
		done(t, m, o)
		for _, at := range pinned {
			if at == i+1 {
				done(t, m, paging)
			}
		}
	}
	if m.store.Versions() != 8 {
		t.Fatalf("%d versions", m.store.Versions())
	}
	expectStands(t, m, 5, 10, 0, len(pinned))
	return m
}

// writes is one of each kind, which changes one key each that stands there.
func writes() []Op {
	return []Op{
		posting(one("a3", 1, 94)), posting(one("a2", 1, 10)),
		{Kind: Update, ID: 1, Have: marks(2), Silence: quiet(`{a="8"}`, 1, 80)},
		{Kind: Expire, ID: 1, Have: marks(2)},
	}
}

// P26.2: without room, and without a pin, a write has the store compacted at
// its revision, and is done then.
func TestRoomIsMade(t *testing.T) {
	for _, o := range writes() {
		m := full(t)
		r := done(t, m, o)
		expectStands(t, m, 6, 10, 5, 0)
		if r.Rev != 6 || o.Kind != Post && r.Tag != etag.Of(6) || m.store.Versions() != 5 {
			t.Errorf("%+v is %s with %d versions", o, show(r), m.store.Versions())
		}
		if l, e := m.Alerts(4); len(l) != 0 || e != api.ErrGone {
			t.Errorf("Alerts(4) is %+v, %d", l, int(e))
		}
		expectAlerts(t, m, 5, one("a1", 1, 93), one("a2", 1, 93), one("a3", 1, 90))
		expectSilences(t, m, 5, as(quiet(`{a="9"}`, 1, 90), 1, silence.Active))
		// Compacted once only, as there is room again.
		done(t, m, posting(one("a1", 1, 95)))
		expectStands(t, m, 7, 10, 5, 0)
	}
	m := full(t)
	done(t, m, posting(one("a3", 1, 10)))
	expectDo(t, m, creating(quiet(`{a="8"}`, 1, 90)), Reply{Rev: 7, Silence: as(quiet(`{a="8"}`, 1, 90), 2, silence.Active), Tag: etag.Of(7)})
	expectStands(t, m, 7, 10, 5, 0)
}

// P26.2: nothing is compacted as long as there is room.
func TestRoomIsLeft(t *testing.T) {
	m := New(narrow, 10)
	for rev := range int64(8) {
		done(t, m, posting(one("a1", 1, 90+rev)))
		expectStands(t, m, rev+1, 10, 0, 0)
	}
	for rev := range int64(8) {
		expectAlerts(t, m, rev+1, one("a1", 1, 90+rev))
	}
	done(t, m, posting(one("a1", 1, 99)))
	expectStands(t, m, 9, 10, 8, 0)
	// As many at once as there is room for.
	m = New(narrow, 10)
	done(t, m, posting(one("a1", 1, 90), one("a2", 1, 90), one("a3", 1, 90), one("a4", 1, 90)))
	done(t, m, posting(one("a1", 1, 91), one("a2", 1, 91), one("a3", 1, 91), one("a4", 1, 91)))
	expectStands(t, m, 2, 10, 0, 0)
	done(t, m, posting(one("a1", 1, 92), one("a2", 1, 92), one("a3", 1, 92), one("a4", 1, 92)))
	expectStands(t, m, 3, 10, 2, 0)
}

// P26.2: with pins the store is compacted at the lowest revision that one
// holds; a write is done, if that makes room.
func TestRoomIsMadeAtPins(t *testing.T) {
	for _, c := range []struct {
		pinned []int
		floor  int64
	}{{[]int{3}, 3}, {[]int{4}, 4}, {[]int{5}, 5}, {[]int{3, 4}, 3}, {[]int{3, 3, 5}, 3}, {[]int{4, 5, 5}, 4}} {
		for _, o := range writes() {
			m := full(t, c.pinned...)
			done(t, m, o)
			expectStands(t, m, 6, 10, c.floor, len(c.pinned))
			// What is pinned is still told.
			r := done(t, m, Op{Kind: Groups, By: []string{"a"}, N: 9, Cursor: Cursor{Pin: 1}})
			want := []group.Group{held(nil, one("a1", 1, 88+int64(c.pinned[0]))), held(nil, one("a2", 1, 90)), held(nil, one("a3", 1, 90))}
			if c.pinned[0] == 5 {
				want[1] = held(nil, one("a2", 1, 93))
			}
			if r.Rev != int64(c.pinned[0]) || showGroups(r.Groups) != showGroups(want) {
				t.Errorf("the page at %v is %s", c.pinned, show(r))
			}
		}
	}
}

// P26.2, P26.3: where that makes no room a write is refused, and has changed
// nothing but the floor.
func TestNoRoom(t *testing.T) {
	for _, c := range []struct {
		pinned []int
		floor  int64
	}{{[]int{1}, 1}, {[]int{2}, 2}, {[]int{2, 5}, 2}, {[]int{1, 2, 3}, 1}} {
		for _, o := range writes() {
			m := full(t, c.pinned...)
			told := m.out.Last()
			for range 2 {
				expectRefused(t, m, api.ErrFull, o)
				expectStands(t, m, 5, 10, c.floor, len(c.pinned))
			}
			expectLog(t, m, 5)
			expectDo(t, m, Op{Kind: Out, Rev: told}, Reply{Rev: 5})
			expectDo(t, m, Op{Kind: Read, ID: 1}, Reply{Rev: 5, Silence: as(quiet(`{a="9"}`, 1, 90), 1, silence.Active), Tag: etag.Of(2)})
			// Without the pin there is room again.
			for id := range c.pinned {
				done(t, m, Op{Kind: Groups, Cursor: Cursor{int64(id + 1), 9}})
			}
			done(t, m, o)
			expectStands(t, m, 6, 10, 5, 0)
		}
	}
	// A pin at the floor.
	m := full(t)
	done(t, m, posting(one("a3", 1, 94)))
	expectStands(t, m, 6, 10, 5, 0)
	done(t, m, posting(one("a3", 1, 95)), posting(one("a3", 1, 96)), posting(one("a3", 1, 97)))
	expectStands(t, m, 9, 10, 5, 0)
	done(t, m, paging)
	done(t, m, posting(one("a3", 1, 98)), posting(one("a3", 1, 99)), posting(one("a1", 1, 99)), posting(one("a2", 1, 99)))
	expectStands(t, m, 13, 10, 9, 1)
	for range 2 {
		expectRefused(t, m, api.ErrFull, posting(one("a2", 1, 98)))
		expectStands(t, m, 13, 10, 9, 1)
	}
}

// P26.2: no room for one more key; the next ID stays.
func TestNoRoomForKeys(t *testing.T) {
	m := full(t)
	expectRefused(t, m, api.ErrFull, creating(quiet(`{a="8"}`, 1, 90)))
	expectStands(t, m, 5, 10, 5, 0)
	expectRefused(t, m, api.ErrFull, creating(quiet(`{a="8"}`, 1, 90)), posting(one("a4", 1, 90)), posting(one("a1", 1, 99), one("a4", 1, 90)),
		posting(one("a1", 1, 10), one("a4", 1, 90), one("a5", 1, 90)))
	expectStands(t, m, 5, 10, 5, 0)
	// One comes, if another one goes.
	done(t, m, posting(one("a1", 1, 10), one("a4", 1, 90)), posting(one("a4", 1, 10)))
	expectDo(t, m, creating(quiet(`{a="8"}`, 1, 90)), Reply{Rev: 8, Silence: as(quiet(`{a="8"}`, 1, 90), 2, silence.Active), Tag: etag.Of(8)})
	// More at once than there may ever be.
	m = New(narrow, 10)
	var l []alert.Alert
	for i := range 5 {
		l = append(l, one("a"+string(rune('1'+i)), 1, 90))
	}
	expectRefused(t, m, api.ErrFull, posting(l...))
	expectStands(t, m, 0, 10, 0, 0)
	expectDo(t, m, posting(l[:4]...), Reply{Rev: 1})
}

// P26.2: a Tick is done, though there is no room: the pins that are in the way
// go, but not if there is room by compacting at the lowest one.
func TestTickWithoutRoom(t *testing.T) {
	for _, c := range []struct {
		pinned      []int
		floor, left int64
	}{
		{nil, 5, 0}, {[]int{1}, 5, 0}, {[]int{2}, 5, 0}, {[]int{3}, 5, 0}, {[]int{2, 5}, 5, 0}, {[]int{3, 5}, 5, 0},
		{[]int{4}, 4, 1}, {[]int{4, 5}, 4, 2}, {[]int{5}, 5, 1}, {[]int{5, 5}, 5, 2},
	} {
		m := full(t, c.pinned...)
		expectDo(t, m, ticking(80), Reply{Rev: 6})
		expectStands(t, m, 6, 90, c.floor, int(c.left))
		expectAlerts(t, m, 6, one("a1", 1, 93), one("a2", 1, 93))
		s := as(quiet(`{a="9"}`, 1, 90), 1, silence.Expired)
		expectSilences(t, m, 6, s)
		expectLog(t, m, 5, clog.Entry{Rev: 6, Change: goes(one("a3", 1, 90))}, clog.Entry{Rev: 6, Change: says(s)})
		expectDo(t, m, Op{Kind: Out, Rev: 3}, Reply{Rev: 6, Notes: notes(4, 6, "-a3")})
		// Those that went are gone, those that stay are told.
		for id, rev := range c.pinned {
			page := Op{Kind: Groups, By: []string{"a"}, N: 9, Cursor: Cursor{Pin: int64(id + 1)}}
			if c.left == 0 {
				expectRefused(t, m, api.ErrGone, page)
			} else if r := done(t, m, page); r.Rev != int64(rev) || len(r.Groups) != 3 {
				t.Errorf("the page is %s", show(r))
			}
		}
	}
}

// P26.2: all that stands there may change at once by a Tick, whatever is pinned.
func TestTickOfAll(t *testing.T) {
	m := New(narrow, 10)
	done(t, m, posting(one("a1", 1, 90), one("a2", 1, 90), one("a3", 1, 90)), creating(quiet(`{a="9"}`, 1, 90)))
	for range 4 {
		done(t, m, paging, posting(one("a1", 1, 90)))
	}
	expectRefused(t, m, api.ErrFull, posting(one("a1", 1, 91)))
	expectStands(t, m, 6, 10, 2, 4)
	expectDo(t, m, ticking(80), Reply{Rev: 7})
	expectStands(t, m, 7, 90, 6, 0)
	expectAlerts(t, m, 7)
	if m.store.Versions() != 8 {
		t.Errorf("%d versions", m.store.Versions())
	}
	// Pins go at the last, not for a Tick that changes nothing.
	m = full(t, 1, 2)
	expectDo(t, m, ticking(79), Reply{Rev: 5})
	expectStands(t, m, 5, 89, 0, 2)
	// Nor do those whose time is over stand in the way.
	c := narrow
	c.Hold = 80
	m = New(c, 10)
	done(t, m, posting(one("a1", 1, 90), one("a2", 1, 90)), paging)
	done(t, m, ticking(1), posting(one("a1", 1, 99)), posting(one("a1", 1, 99)), posting(one("a1", 1, 99)), posting(one("a1", 1, 99)), posting(one("a1", 1, 99)), paging, posting(one("a1", 1, 99)))
	expectStands(t, m, 7, 11, 0, 2)
	expectDo(t, m, ticking(79), Reply{Rev: 8})
	expectStands(t, m, 8, 90, 6, 1)
}

// P1: many alerts are soon posted, paged and gone.
func TestManyAlerts(t *testing.T) {
	const many = 10000
	var l []alert.Alert
	for i := range many {
		text := ""
		for _, c := range fmt.Sprintf("%05d", i*7919%many) {
			text += string("abcde"[len(text)/2]) + string(c)
		}
		l = append(l, one(text, 1, 90))
	}
	m := New(Config{Keys: many, Log: many, Out: 9, Pins: 9, Hold: 100, By: []string{"d", "e"}}, 10)
	expectDo(t, m, posting(l...), Reply{Rev: 1})
	expectDo(t, m, Op{Kind: Out, Rev: 98}, Reply{Rev: 1, Notes: notes(99, 1, "+d9e8", "+d9e9")})
	page := Op{Kind: Groups, By: []string{"a", "b", "c", "d", "e"}, N: 1000, Filter: list(`{a="0"}`)}
	for n := 0; ; n++ {
		r := done(t, m, page)
		if len(r.Groups) != 1000 || r.Groups[7].Key.Get("e") != "7" {
			t.Fatalf("page %d has %d groups", n, len(r.Groups))
		}
		if page.Cursor = r.Next; r.Next.Pin == 0 {
			if n != 9 {
				t.Errorf("%d pages", n)
			}
			break
		}
	}
	expectDo(t, m, ticking(80), Reply{Rev: 2})
	expectStands(t, m, 2, 90, 0, 0)
	expectAlerts(t, m, 2)
	expectRefused(t, m, api.ErrGone, Op{Kind: Watch})
	if r := done(t, m, Op{Kind: Watch, Rev: 1}); len(r.Entries) != many {
		t.Errorf("%d entries", len(r.Entries))
	}
}
