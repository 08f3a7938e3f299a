package watch

import (
	"fmt"
	"math"
	"slices"
	"testing"

	"larum/alert"
	"larum/api"
	"larum/clog"
	"larum/core"
	"larum/etag"
	"larum/group"
	"larum/mv"
	"larum/note"
	"larum/silence"
)

// op is what one waits for, who is told from here on by its Rev.
func op(rev int64) core.Op { return core.Op{Kind: core.Watch, Rev: rev} }

// nothing tells that there is nothing yet.
func nothing(core.Op) core.Reply { return core.Reply{Code: api.ErrMore} }

// only tells those who wait for these revisions something, all others nothing.
func only(revs ...int64) func(core.Op) core.Reply {
	return func(o core.Op) core.Reply {
		if slices.Contains(revs, o.Rev) {
			return told(o.Rev)
		}
		return nothing(o)
	}
}

// told is what one is told who waits for a revision.
func told(rev int64) core.Reply {
	return core.Reply{Rev: rev + 100, Entries: []clog.Entry{{Rev: rev + 1, Change: mv.Change{Key: "k", Val: "1"}}}}
}

// three is a table of three of at most five: 7 waits until 10, 3 until 5, 9
// until 8, for the revisions 1, 2, 3.
func three(t *testing.T) *Table {
	t.Helper()
	w := New(5)
	expectPark(t, w, 7, op(1), 10, api.OK)
	expectPark(t, w, 3, op(2), 5, api.OK)
	expectPark(t, w, 9, op(3), 8, api.OK)
	return w
}

func expectPark(t *testing.T, w *Table, conn int, o core.Op, until int64, want api.Errno) {
	t.Helper()
	if e := w.Park(conn, o, until); e != want {
		t.Errorf("Park(%d, %d) is %d, not %d", conn, until, e, want)
	}
}

func expectDrop(t *testing.T, w *Table, conn int, want bool) {
	t.Helper()
	if ok := w.Drop(conn); ok != want {
		t.Errorf("Drop(%d) is %v", conn, ok)
	}
}

// expectWaiting: just these wait.
func expectWaiting(t *testing.T, w *Table, conns ...int) {
	t.Helper()
	if n := w.Len(); n != len(conns) {
		t.Errorf("%d wait, not %d", n, len(conns))
	}
	for conn := -3; conn < 30; conn++ {
		if ok := w.Has(conn); ok != slices.Contains(conns, conn) {
			t.Errorf("Has(%d) is %v", conn, ok)
		}
	}
	for _, conn := range []int{math.MinInt, math.MaxInt} {
		if w.Has(conn) {
			t.Errorf("%d waits", conn)
		}
	}
}

// all: what was told, to whom, for what, as text; lists that are nil or empty
// are the same.
func all(l []Done) string { return fmt.Sprintf("%+v", l) }

// expectSwept: these are told something, in this order, and nobody else.
func expectSwept(t *testing.T, w *Table, now, rev int64, try func(core.Op) core.Reply, want ...Done) {
	t.Helper()
	if got := w.Sweep(now, rev, try); all(got) != all(want) {
		t.Errorf("Sweep(%d, %d) is %s, not %s", now, rev, all(got), all(want))
	}
}

// P30.1: nobody waits at first, and at most as many as may; 1, if that is below
// 1.
func TestNew(t *testing.T) {
	for most, room := range map[int]int{math.MinInt: 1, -1: 1, 0: 1, 1: 1, 2: 2, 5: 5, 20: 20} {
		w := New(most)
		expectWaiting(t, w)
		var conns []int
		for conn := range room {
			expectPark(t, w, conn, op(1), 9, api.OK)
			conns = append(conns, conn)
			expectWaiting(t, w, conns...)
		}
		for conn := room; conn < room+3; conn++ {
			expectPark(t, w, conn, op(1), 9, api.ErrFull)
		}
		expectWaiting(t, w, conns...)
	}
	expectPark(t, New(math.MaxInt), 1, op(1), 1, api.OK)
}

// P30.1: who waits already is told so, be there room or not; nothing changes.
func TestPark(t *testing.T) {
	w := New(2)
	expectPark(t, w, 7, op(1), 10, api.OK)
	expectPark(t, w, 7, op(9), 99, api.ErrState)
	expectPark(t, w, 3, op(2), 5, api.OK)
	expectPark(t, w, 7, op(9), 99, api.ErrState)
	expectPark(t, w, 3, op(9), 99, api.ErrState)
	expectPark(t, w, 4, op(9), 99, api.ErrFull)
	expectWaiting(t, w, 3, 7)
	expectSwept(t, w, 9, 20, nothing, Done{3, op(2), core.Reply{Rev: 20}})
	expectSwept(t, w, 10, 21, nothing, Done{7, op(1), core.Reply{Rev: 21}})
}

// P30.1: numbers of any kind.
func TestParkOfAnyNumbers(t *testing.T) {
	w := New(10)
	for _, conn := range []int{0, -1, math.MinInt, math.MaxInt, 1 << 32, 1} {
		expectPark(t, w, conn, op(int64(conn)), int64(conn), api.OK)
		expectPark(t, w, conn, op(1), 9, api.ErrState)
	}
	if w.Len() != 6 || !w.Has(math.MinInt) || !w.Has(math.MaxInt) || w.Has(2) {
		t.Errorf("%d wait", w.Len())
	}
	for i, conn := range []int{1 << 32, math.MinInt, 0, 1, -1, math.MaxInt} {
		expectDrop(t, w, conn, true)
		expectDrop(t, w, conn, false)
		if w.Has(conn) || w.Len() != 5-i {
			t.Errorf("%d wait", w.Len())
		}
	}
}

// P30.1: who is dropped waits no more; who comes back is behind all others.
func TestDrop(t *testing.T) {
	w := three(t)
	for _, conn := range []int{0, 1, 2, 4, 8, 10, -7, math.MinInt, math.MaxInt} {
		expectDrop(t, w, conn, false)
	}
	expectWaiting(t, w, 3, 7, 9)
	expectDrop(t, w, 7, true)
	expectWaiting(t, w, 3, 9)
	expectDrop(t, w, 7, false)
	expectPark(t, w, 7, op(4), 10, api.OK)
	expectWaiting(t, w, 3, 7, 9)
	expectSwept(t, w, 0, 20, only(1, 2, 3, 4), Done{3, op(2), told(2)}, Done{9, op(3), told(3)}, Done{7, op(4), told(4)})
	expectWaiting(t, w)
	for _, conn := range []int{3, 7, 9} {
		expectDrop(t, w, conn, false)
	}
}

// P30.1: behind a Drop, and behind a Sweep, there is room again.
func TestRoomAgain(t *testing.T) {
	w := New(2)
	expectPark(t, w, 1, op(1), 5, api.OK)
	expectPark(t, w, 2, op(2), 9, api.OK)
	expectPark(t, w, 3, op(3), 9, api.ErrFull)
	expectDrop(t, w, 2, true)
	expectPark(t, w, 3, op(3), 9, api.OK)
	expectPark(t, w, 2, op(2), 9, api.ErrFull)
	expectSwept(t, w, 5, 20, nothing, Done{1, op(1), core.Reply{Rev: 20}})
	expectPark(t, w, 2, op(2), 9, api.OK)
	expectPark(t, w, 1, op(1), 9, api.ErrFull)
	expectWaiting(t, w, 2, 3)
}

// P30.2: the chapter's example; until when one waits: now, and ahead of it.
func TestSweepByTime(t *testing.T) {
	w := New(5)
	expectPark(t, w, 1, op(1), 5, api.OK)
	expectPark(t, w, 2, op(2), 9, api.OK)
	expectSwept(t, w, 4, 20, nothing)
	expectWaiting(t, w, 1, 2)
	expectSwept(t, w, 5, 20, nothing, Done{1, op(1), core.Reply{Rev: 20}})
	expectWaiting(t, w, 2)
	expectSwept(t, w, 8, 21, nothing)
	expectSwept(t, w, 100, 21, nothing, Done{2, op(2), core.Reply{Rev: 21}})
	expectWaiting(t, w)
	expectSwept(t, w, 101, 22, nothing)
	for _, x := range []struct {
		until, now int64
		over       bool
	}{
		{0, 0, true}, {1, 0, false}, {-1, 0, true}, {0, -1, false}, {math.MinInt64, math.MinInt64, true}, {math.MaxInt64, math.MaxInt64, true}, {math.MaxInt64, math.MaxInt64 - 1, false}, {math.MinInt64, math.MaxInt64, true}, {math.MaxInt64, math.MinInt64, false}, {math.MinInt64 + 1, math.MinInt64, false},
	} {
		w := New(1)
		expectPark(t, w, 1, op(1), x.until, api.OK)
		if got := w.Sweep(x.now, -3, nothing); (len(got) == 1 && got[0].Reply.Rev == -3) != x.over || w.Has(1) == x.over {
			t.Errorf("at %d, until %d: %s", x.now, x.until, all(got))
		}
	}
}

// P30.2: nobody waits.
func TestSweepOfNobody(t *testing.T) {
	asked := 0
	try := func(o core.Op) core.Reply { asked++; return told(1) }
	w := New(5)
	expectSwept(t, w, 5, 20, try)
	expectPark(t, w, 1, op(1), 9, api.OK)
	expectDrop(t, w, 1, true)
	expectSwept(t, w, 100, 20, try)
	expectSwept(t, w, 100, 20, nil)
	if asked != 0 {
		t.Errorf("asked %d times", asked)
	}
}

// P30.2: who is told something is told just that, be the time over or not; an
// error too, but ErrMore.
func TestSweepOfReplies(t *testing.T) {
	for _, now := range []int64{0, 5, 9} {
		for _, r := range []core.Reply{
			{}, {Rev: 7}, told(1), {Code: api.ErrGone}, {Code: api.ErrArg}, {Code: api.ErrNil}, {Code: api.ErrFull}, {Code: api.ErrState}, {Code: 12}, {Code: -1}, {Code: math.MaxInt},
			{Code: api.ErrGone, Rev: 3, Entries: told(1).Entries, Notes: []note.Entry{{Seq: 1}}, Next: core.Cursor{Pin: 1}, Tag: etag.Tag{Text: "v"}, Groups: []group.Group{{Members: []group.Member{{By: []int64{1}}}}}},
		} {
			w := New(5)
			expectPark(t, w, 1, op(1), 5, api.OK)
			expectSwept(t, w, now, 20, func(core.Op) core.Reply { return r }, Done{1, op(1), r})
			expectWaiting(t, w)
		}
	}
	// Of ErrMore nothing is told but the revision, whatever stands there.
	more := told(1)
	more.Code = api.ErrMore
	w := New(5)
	expectPark(t, w, 1, op(1), 5, api.OK)
	expectSwept(t, w, 4, 20, func(core.Op) core.Reply { return more })
	expectSwept(t, w, 5, 20, func(core.Op) core.Reply { return more }, Done{1, op(1), core.Reply{Rev: 20}})
}

// P30.2: in the order in which they came, some told and some not.
func TestSweepInOrder(t *testing.T) {
	for _, x := range []struct {
		now  int64
		revs []int64
		want []Done
		left []int
	}{
		{4, nil, nil, []int{3, 7, 9}},
		{4, []int64{1, 2, 3}, []Done{{7, op(1), told(1)}, {3, op(2), told(2)}, {9, op(3), told(3)}}, nil},
		{4, []int64{3, 1}, []Done{{7, op(1), told(1)}, {9, op(3), told(3)}}, []int{3}},
		{4, []int64{2}, []Done{{3, op(2), told(2)}}, []int{7, 9}},
		{5, nil, []Done{{3, op(2), core.Reply{Rev: 20}}}, []int{7, 9}},
		{5, []int64{1}, []Done{{7, op(1), told(1)}, {3, op(2), core.Reply{Rev: 20}}}, []int{9}},
		{5, []int64{2, 3}, []Done{{3, op(2), told(2)}, {9, op(3), told(3)}}, []int{7}},
		{8, nil, []Done{{3, op(2), core.Reply{Rev: 20}}, {9, op(3), core.Reply{Rev: 20}}}, []int{7}},
		{8, []int64{1}, []Done{{7, op(1), told(1)}, {3, op(2), core.Reply{Rev: 20}}, {9, op(3), core.Reply{Rev: 20}}}, nil},
		{10, []int64{2}, []Done{{7, op(1), core.Reply{Rev: 20}}, {3, op(2), told(2)}, {9, op(3), core.Reply{Rev: 20}}}, nil},
	} {
		w := three(t)
		expectSwept(t, w, x.now, 20, only(x.revs...), x.want...)
		expectWaiting(t, w, x.left...)
		// Those that are left stand as they stood.
		var want []Done
		for _, d := range []Done{{7, op(1), core.Reply{Rev: 30}}, {3, op(2), core.Reply{Rev: 30}}, {9, op(3), core.Reply{Rev: 30}}} {
			if slices.Contains(x.left, d.Conn) {
				want = append(want, d)
			}
		}
		expectSwept(t, w, 10, 30, nothing, want...)
		expectWaiting(t, w)
	}
}

// P30.2: each one is asked for once, in order, with all that it waits for.
func TestSweepAsks(t *testing.T) {
	w := three(t)
	whole := core.Op{Kind: core.Watch, Alerts: []alert.Alert{{Starts: 1}}, ID: 2, Have: etag.List{Tags: []etag.Tag{{Text: "v"}}}, By: []string{"a"}, N: 3, Cursor: core.Cursor{Pin: 4}, Rev: 5, T: 6}
	expectPark(t, w, 4, whole, 9, api.OK)
	var asked []core.Op
	expectSwept(t, w, 4, 20, func(o core.Op) core.Reply { asked = append(asked, o); return nothing(o) })
	if want := []core.Op{op(1), op(2), op(3), whole}; fmt.Sprintf("%+v", asked) != fmt.Sprintf("%+v", want) {
		t.Errorf("asked for %+v, not %+v", asked, want)
	}
	expectDrop(t, w, 7, true)
	expectDrop(t, w, 3, true)
	expectDrop(t, w, 9, true)
	expectSwept(t, w, 9, 20, nothing, Done{4, whole, core.Reply{Rev: 20}})
}

// P30.2: a function that is nil tells that there is nothing.
func TestSweepByNil(t *testing.T) {
	w := three(t)
	expectSwept(t, w, 4, 20, nil)
	expectWaiting(t, w, 3, 7, 9)
	expectSwept(t, w, 8, 20, nil, Done{3, op(2), core.Reply{Rev: 20}}, Done{9, op(3), core.Reply{Rev: 20}})
	expectWaiting(t, w, 7)
	expectSwept(t, w, 10, 21, nil, Done{7, op(1), core.Reply{Rev: 21}})
	expectWaiting(t, w)
}

// P30.1, P30.2: a nil table.
func TestNilTable(t *testing.T) {
	var w *Table
	expectPark(t, w, 1, op(1), 9, api.ErrNil)
	expectDrop(t, w, 1, false)
	expectWaiting(t, w)
	expectSwept(t, w, 9, 20, nothing)
	expectSwept(t, w, 9, 20, nil)
	expectSwept(t, w, 9, 20, func(core.Op) core.Reply { t.Error("it was asked"); return told(1) })
}

// P1: a table made by hand is as of at most 0.
func TestByHand(t *testing.T) {
	w := &Table{}
	expectWaiting(t, w)
	expectDrop(t, w, 1, false)
	expectSwept(t, w, 9, 20, nothing)
	expectPark(t, w, 1, op(1), 5, api.OK)
	expectPark(t, w, 1, op(1), 5, api.ErrState)
	expectPark(t, w, 2, op(1), 5, api.ErrFull)
	expectWaiting(t, w, 1)
	expectSwept(t, w, 5, 20, nil, Done{1, op(1), core.Reply{Rev: 20}})
}

// Rule 5: what is written into lists that were handed in is seen by nobody.
func TestOpsAreKept(t *testing.T) {
	o := core.Op{Kind: core.Watch, Alerts: []alert.Alert{{Starts: 1}}, Have: etag.List{Tags: []etag.Tag{{Text: "v"}}}, By: []string{"a"}}
	want := fmt.Sprintf("%+v", o)
	spoil := func(o core.Op) {
		o.Alerts[0].Starts, o.Have.Tags[0].Text, o.By[0] = 9, "x", "x"
		_, _, _ = append(o.Alerts, alert.Alert{}), append(o.Have.Tags, etag.Tag{}), append(o.By, "x")
	}
	w := New(3)
	expectPark(t, w, 1, o, 5, api.OK)
	expectPark(t, w, 2, o, 5, api.OK)
	spoil(o)
	for range 2 {
		w.Sweep(4, 20, func(o core.Op) core.Reply {
			if got := fmt.Sprintf("%+v", o); got != want {
				t.Errorf("asked for %s, not %s", got, want)
			}
			spoil(o)
			return nothing(o)
		})
	}
	var kept []core.Op
	l := w.Sweep(5, 20, func(o core.Op) core.Reply { kept = append(kept, o); return nothing(o) })
	for i, d := range l {
		if got := fmt.Sprintf("%+v", d.Op); got != want {
			t.Errorf("told of %s, not %s", got, want)
		}
		spoil(kept[i])
		if got := fmt.Sprintf("%+v", d.Op); got != want {
			t.Errorf("it became %s", got)
		}
		spoil(d.Op)
	}
	if len(l) != 2 {
		t.Errorf("%d are told something", len(l))
	}
}

// Rule 4: what several are told shares no memory, nor with what was told.
func TestRepliesShareNothing(t *testing.T) {
	r := core.Reply{Rev: 7, Groups: []group.Group{{Members: []group.Member{{By: []int64{1}}}}}, Entries: []clog.Entry{{Rev: 1}}, Notes: []note.Entry{{Seq: 1}}}
	want := fmt.Sprintf("%+v", r)
	spoil := func(r core.Reply) {
		r.Groups[0].Members[0].By[0], r.Entries[0].Rev, r.Notes[0].Seq = 9, 9, 9
		r.Groups[0].Members[0] = group.Member{}
		r.Groups[0] = group.Group{}
	}
	w := three(t)
	l := w.Sweep(4, 20, func(core.Op) core.Reply { return r })
	if len(l) != 3 {
		t.Fatalf("%d are told something", len(l))
	}
	for _, d := range l {
		if got := fmt.Sprintf("%+v", d.Reply); got != want {
			t.Errorf("it is told %s, not %s", got, want)
		}
		spoil(d.Reply)
	}
	if got := fmt.Sprintf("%+v", r); got != want {
		t.Errorf("what was told became %s", got)
	}
}

// P30.2: one that is let go while others are asked for is told nothing; those
// that come meanwhile wait for the next time.
func TestSweepOfOthersMeanwhile(t *testing.T) {
	w := three(t)
	expectSwept(t, w, 10, 20, func(o core.Op) core.Reply {
		if o.Rev == 1 {
			expectDrop(t, w, 3, true)
			expectPark(t, w, 4, op(4), 0, api.OK)
			expectDrop(t, w, 9, true)
			expectPark(t, w, 9, op(5), 0, api.OK)
		}
		return nothing(o)
	}, Done{7, op(1), core.Reply{Rev: 20}})
	expectWaiting(t, w, 4, 9)
	expectSwept(t, w, 0, 21, func(o core.Op) core.Reply {
		// Each one comes again at once.
		conn := map[int64]int{4: 4, 5: 9}[o.Rev]
		expectDrop(t, w, conn, true)
		expectPark(t, w, conn, op(o.Rev+10), 1, api.OK)
		return told(o.Rev)
	}, Done{4, op(4), told(4)}, Done{9, op(5), told(5)})
	expectWaiting(t, w, 4, 9)
	expectSwept(t, w, 1, 22, nothing, Done{4, op(14), core.Reply{Rev: 22}}, Done{9, op(15), core.Reply{Rev: 22}})
}

// Rule 1: a panic of the function goes on; all of them wait still.
func TestSweepOfPanic(t *testing.T) {
	w := three(t)
	func() {
		defer func() {
			if x := recover(); x != "its own" {
				t.Errorf("the panic is %v", x)
			}
		}()
		w.Sweep(10, 20, func(o core.Op) core.Reply {
			if o.Rev == 3 {
				panic("its own")
			}
			return told(o.Rev)
		})
	}()
	expectWaiting(t, w, 3, 7, 9)
	expectSwept(t, w, 4, 20, only(1, 2, 3), Done{7, op(1), told(1)}, Done{3, op(2), told(2)}, Done{9, op(3), told(3)})
}

// silenceUntil: one that ends at a time.
func silenceUntil(ends int64) silence.Silence { return silence.Silence{Match: `{a="1"}`, Ends: ends} }
