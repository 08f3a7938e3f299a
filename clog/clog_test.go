package clog

import (
	"fmt"
	"math"
	"math/rand"
	"slices"
	"testing"

	"larum/api"
	"larum/mv"
)

// changes: one of each key, with a value of its own; one that is Gone, if the
// key begins so.
func changes(keys ...string) []mv.Change {
	var l []mv.Change
	for _, key := range keys {
		l = append(l, mv.Change{Key: key, Val: "of " + key, Gone: key != "" && key[0] == '-'})
	}
	return l
}

// entries: those of a revision.
func entries(rev int64, keys ...string) []Entry {
	var l []Entry
	for _, c := range changes(keys...) {
		l = append(l, Entry{rev, c})
	}
	return l
}

// join: entries of several revisions.
func join(l ...[]Entry) []Entry { return slices.Concat(l...) }

// some is a log with room, up to 9: at 5 and 9 nothing has changed.
func some(t *testing.T) *Log {
	t.Helper()
	l := New(10)
	expectAdd(t, l, 2, api.OK, "a", "b")
	expectAdd(t, l, 3, api.OK, "-a")
	expectAdd(t, l, 5, api.OK)
	expectAdd(t, l, 8, api.OK, "c", "a", "")
	expectAdd(t, l, 9, api.OK)
	return l
}

// ofSome: what is told of that log.
func ofSome() []Entry {
	return join(entries(2, "a", "b"), entries(3, "-a"), entries(8, "c", "a", ""))
}

func expectAdd(t *testing.T, l *Log, rev int64, want api.Errno, keys ...string) {
	t.Helper()
	c := changes(keys...)
	if e := l.Add(rev, c); e != want {
		t.Errorf("Add(%d, %q) is %d, not %d", rev, keys, e, want)
	}
	if !slices.Equal(c, changes(keys...)) {
		t.Errorf("the changes became %+v", c)
	}
}

// expectStands: the log's floor and last revision, and all its entries.
func expectStands(t *testing.T, l *Log, floor, last int64, want ...Entry) {
	t.Helper()
	if l.Floor() != floor || l.Last() != last || l.Len() != len(want) {
		t.Errorf("the log stands at %d, %d, %d, not at %d, %d, %d", l.Floor(), l.Last(), l.Len(), floor, last, len(want))
	}
	expectSince(t, l, floor, want...)
}

// expectSince: just these are told behind a revision; by Next, too.
func expectSince(t *testing.T, l *Log, rev int64, want ...Entry) {
	t.Helper()
	if got, e := l.Since(rev); !slices.Equal(got, want) || e != api.OK {
		t.Errorf("Since(%d) is %+v, %d, not %+v", rev, got, e, want)
	}
	expectNext(t, l, rev, nil, want...)
	expectNext(t, l, rev, func(mv.Change) bool { return true }, want...)
	expectNext(t, l, rev, func(mv.Change) bool { return false })
}

// expectNext: of those behind a revision just these fit; told up to the last.
func expectNext(t *testing.T, l *Log, rev int64, fits func(mv.Change) bool, want ...Entry) {
	t.Helper()
	if got, to, e := l.Next(rev, fits); !slices.Equal(got, want) || to != l.Last() || e != api.OK {
		t.Errorf("Next(%d) is %+v, %d, %d, not %+v", rev, got, to, e, want)
	}
}

// expectRefused: this error is told of each of these revisions, and whether a
// change fits is not asked.
func expectRefused(t *testing.T, l *Log, want api.Errno, revs ...int64) {
	t.Helper()
	for _, rev := range revs {
		if got, e := l.Since(rev); len(got) != 0 || e != want {
			t.Errorf("Since(%d) is %+v, %d, not %d", rev, got, e, want)
		}
		for _, fits := range []func(mv.Change) bool{nil, func(mv.Change) bool { panic("asked") }} {
			if got, to, e := l.Next(rev, fits); len(got) != 0 || to != 0 || e != want {
				t.Errorf("Next(%d) is %+v, %d, %d, not %d", rev, got, to, e, want)
			}
		}
	}
}

// P20.1: an empty log.
func TestNew(t *testing.T) {
	for _, l := range []*Log{New(0), New(1), New(-1), New(math.MinInt), New(math.MaxInt), {}} {
		expectStands(t, l, 0, 0)
		expectRefused(t, l, api.ErrGone, -1, -2, math.MinInt64)
		expectRefused(t, l, api.ErrArg, 1, 2, api.MaxRev, math.MaxInt64)
		expectAdd(t, l, 1, api.OK, "a")
		expectStands(t, l, 0, 1, entries(1, "a")...)
	}
}

// P20.1: revisions at the last one and below it are refused, then nothing has
// changed; above it any is taken, with changes or without.
func TestAddOfRevisions(t *testing.T) {
	l := New(5)
	for _, rev := range []int64{0, -1, -api.MaxRev, math.MinInt64} {
		expectAdd(t, l, rev, api.ErrArg)
		expectAdd(t, l, rev, api.ErrArg, "a")
		expectStands(t, l, 0, 0)
	}
	l = some(t)
	for _, rev := range []int64{9, 8, 7, 5, 4, 1, 0, -1, math.MinInt64} {
		expectAdd(t, l, rev, api.ErrArg)
		expectAdd(t, l, rev, api.ErrArg, "x", "y")
		expectAdd(t, l, rev, api.ErrArg, make([]string, 20)...)
		expectStands(t, l, 0, 9, ofSome()...)
	}
	expectAdd(t, l, 10, api.OK, "d")
	expectAdd(t, l, 10, api.ErrArg, "d")
	expectAdd(t, l, 12, api.OK)
	expectAdd(t, l, 11, api.ErrArg, "d")
	expectStands(t, l, 0, 12, join(ofSome(), entries(10, "d"))...)
	for _, rev := range []int64{api.MaxRev, api.MaxRev + 1, math.MaxInt64} {
		expectAdd(t, l, rev, api.OK, "e")
		expectAdd(t, l, rev, api.ErrArg, "e")
	}
	expectStands(t, l, 0, math.MaxInt64, join(ofSome(), entries(10, "d"), entries(api.MaxRev, "e"), entries(api.MaxRev+1, "e"), entries(math.MaxInt64, "e"))...)
}

// P20.1: the entries stand in order, as the changes are: the same key twice,
// no key, one that is Gone with a value.
func TestAddKeepsAll(t *testing.T) {
	l := New(10)
	c := []mv.Change{{Key: "b", Val: "1"}, {Key: "a", Val: "\xFF\x00", Gone: true}, {}, {Key: "b", Val: "2"}, {Gone: true}}
	if e := l.Add(7, c); e != api.OK {
		t.Error(e)
	}
	expectStands(t, l, 0, 7, Entry{7, c[0]}, Entry{7, c[1]}, Entry{7, c[2]}, Entry{7, c[3]}, Entry{7, c[4]})
}

// P20.1: as many as may be held stay; of one more all of the lowest revision
// go, and that one is the floor.
func TestWhichGo(t *testing.T) {
	l := New(4)
	expectAdd(t, l, 2, api.OK, "a", "b")
	expectAdd(t, l, 3, api.OK, "c")
	expectAdd(t, l, 5, api.OK, "d")
	expectStands(t, l, 0, 5, join(entries(2, "a", "b"), entries(3, "c"), entries(5, "d"))...)
	// No change takes no room.
	expectAdd(t, l, 6, api.OK)
	expectStands(t, l, 0, 6, join(entries(2, "a", "b"), entries(3, "c"), entries(5, "d"))...)
	expectAdd(t, l, 8, api.OK, "e")
	expectStands(t, l, 2, 8, join(entries(3, "c"), entries(5, "d"), entries(8, "e"))...)
	expectAdd(t, l, 9, api.OK, "f")
	expectStands(t, l, 2, 9, join(entries(3, "c"), entries(5, "d"), entries(8, "e"), entries(9, "f"))...)
	// Those of two revisions go.
	expectAdd(t, l, 20, api.OK, "g", "h")
	expectStands(t, l, 5, 20, join(entries(8, "e"), entries(9, "f"), entries(20, "g", "h"))...)
	// All that came ahead go.
	expectAdd(t, l, 21, api.OK, "i", "j", "k", "l")
	expectStands(t, l, 20, 21, entries(21, "i", "j", "k", "l")...)
	expectAdd(t, l, 22, api.OK)
	expectStands(t, l, 20, 22, entries(21, "i", "j", "k", "l")...)
	expectAdd(t, l, 23, api.OK, "m")
	expectStands(t, l, 21, 23, entries(23, "m")...)
}

// P20.1: more than may be held of one revision go themselves.
func TestMoreThanMayBeHeld(t *testing.T) {
	l := New(3)
	expectAdd(t, l, 4, api.OK, "a", "b", "c", "d")
	expectStands(t, l, 4, 4)
	expectRefused(t, l, api.ErrGone, 3, 0)
	expectRefused(t, l, api.ErrArg, 5)
	expectAdd(t, l, 4, api.ErrArg, "a")
	expectAdd(t, l, 6, api.OK, "a", "b")
	expectStands(t, l, 4, 6, entries(6, "a", "b")...)
	expectAdd(t, l, 7, api.OK, make([]string, 1000)...)
	expectStands(t, l, 7, 7)
	if l.entries != nil {
		t.Errorf("room for %d is kept", cap(l.entries))
	}
	expectAdd(t, l, 8, api.OK, "c", "d", "e")
	expectStands(t, l, 7, 8, entries(8, "c", "d", "e")...)
}

// P20.1: most below 1 is 1; example 1 of at most two.
func TestMost(t *testing.T) {
	for _, most := range []int{1, 0, -1, -100, math.MinInt} {
		l := New(most)
		expectAdd(t, l, 1, api.OK, "a")
		expectStands(t, l, 0, 1, entries(1, "a")...)
		expectAdd(t, l, 2, api.OK, "b")
		expectStands(t, l, 1, 2, entries(2, "b")...)
		expectAdd(t, l, 3, api.OK, "c", "d")
		expectStands(t, l, 3, 3)
		expectAdd(t, l, 5, api.OK)
		expectStands(t, l, 3, 5)
	}
	l := New(2)
	for i, key := range []string{"a", "b", "c"} {
		expectAdd(t, l, int64(i+1), api.OK, key)
	}
	expectRefused(t, l, api.ErrGone, 0)
	expectStands(t, l, 1, 3, join(entries(2, "b"), entries(3, "c"))...)
}

// P20.2: Since and Next below the floor, at it, at each revision, between, at
// the last one, above it.
func TestSince(t *testing.T) {
	l := some(t)
	all := ofSome()
	expectRefused(t, l, api.ErrGone, -1, math.MinInt64)
	for rev, gone := range []int{0, 0, 2, 3, 3, 3, 3, 3, 6, 6} {
		expectSince(t, l, int64(rev), all[gone:]...)
	}
	expectRefused(t, l, api.ErrArg, 10, 11, api.MaxRev, math.MaxInt64)
	l = New(4)
	expectAdd(t, l, 2, api.OK, "a")
	expectAdd(t, l, 4, api.OK, "b")
	expectAdd(t, l, 7, api.OK, "c", "d", "e")
	expectRefused(t, l, api.ErrGone, math.MinInt64, -1, 0, 1)
	for _, rev := range []int64{2, 3} {
		expectSince(t, l, rev, join(entries(4, "b"), entries(7, "c", "d", "e"))...)
	}
	for _, rev := range []int64{4, 5, 6} {
		expectSince(t, l, rev, entries(7, "c", "d", "e")...)
	}
	expectSince(t, l, 7)
	expectRefused(t, l, api.ErrArg, 8, math.MaxInt64)
}

// P20.2: of fits that some do; each change is asked for once, in order.
func TestNextOfSome(t *testing.T) {
	l := some(t)
	of := func(key string) func(mv.Change) bool {
		return func(c mv.Change) bool { return c.Key == key }
	}
	expectNext(t, l, 0, of("a"), join(entries(2, "a"), entries(8, "a"))...)
	expectNext(t, l, 2, of("a"), entries(8, "a")...)
	expectNext(t, l, 0, of("-a"), entries(3, "-a")...)
	expectNext(t, l, 3, of("-a"))
	expectNext(t, l, 0, of(""), entries(8, "")...)
	expectNext(t, l, 0, of("x"))
	expectNext(t, l, 9, of("a"))
	expectNext(t, l, 0, func(c mv.Change) bool { return c.Gone }, entries(3, "-a")...)
	expectNext(t, l, 0, func(c mv.Change) bool { return c.Val == "of b" }, entries(2, "b")...)
	var asked []mv.Change
	expectNext(t, l, 2, func(c mv.Change) bool {
		asked = append(asked, c)
		return len(asked)%2 == 0
	}, entries(8, "c", "")...)
	if want := append(changes("-a"), changes("c", "a", "")...); !slices.Equal(asked, want) {
		t.Errorf("asked for %+v, not %+v", asked, want)
	}
}

// P20.2: what is told is of the log as it was, though who is asked adds to it.
func TestNextWhileAdding(t *testing.T) {
	l := New(3)
	expectAdd(t, l, 1, api.OK, "a", "b")
	expectAdd(t, l, 2, api.OK, "c")
	rev := l.Last()
	got, to, e := l.Next(0, func(c mv.Change) bool {
		rev++
		expectAdd(t, l, rev, api.OK, "x", "y")
		return c.Key != "b"
	})
	if !slices.Equal(got, join(entries(1, "a"), entries(2, "c"))) || to != 2 || e != api.OK {
		t.Errorf("Next is %+v, %d, %d", got, to, e)
	}
	expectStands(t, l, 4, 5, entries(5, "x", "y")...)
}

// Rule 1: a panic of the function that is handed in goes on, and the log is as
// it was.
func TestPanicGoesOn(t *testing.T) {
	l := some(t)
	defer func() {
		if recover() != "mine" {
			t.Error("the panic did not go on")
		}
		expectStands(t, l, 0, 9, ofSome()...)
	}()
	l.Next(0, func(mv.Change) bool { panic("mine") })
}

// Rules 4 and 5: the log shares no list with its callers.
func TestSharesNothing(t *testing.T) {
	l := New(10)
	c := append(changes("a", "b", "c"), changes("spare")...)[:3]
	if e := l.Add(1, c); e != api.OK {
		t.Error(e)
	}
	for i := range c {
		c[i] = mv.Change{Key: "spoilt"}
	}
	want := entries(1, "a", "b", "c")
	expectStands(t, l, 0, 1, want...)
	for _, ask := range []func() []Entry{
		func() []Entry { got, _ := l.Since(0); return got },
		func() []Entry { got, _, _ := l.Next(0, nil); return got },
		func() []Entry { got, _, _ := l.Next(0, func(c mv.Change) bool { return true }); return got },
		func() []Entry {
			got, _, _ := l.Next(0, func(c mv.Change) bool { return c.Key != "c" })
			return append(got, want[2])
		},
	} {
		got, other := ask(), ask()
		for i := range got {
			got[i] = Entry{9, mv.Change{Key: "spoilt"}}
		}
		_ = append(got, Entry{9, mv.Change{Key: "spoilt"}})
		_ = append(got[:1], Entry{9, mv.Change{Key: "spoilt"}})
		if !slices.Equal(other, want) {
			t.Errorf("another answer became %+v", other)
		}
		expectStands(t, l, 0, 1, want...)
	}
	// Nor does what goes, and what comes, change an answer.
	told, _ := l.Since(0)
	tail, _ := l.Since(1)
	_ = append(tail, Entry{9, mv.Change{Key: "spoilt"}})
	expectAdd(t, l, 2, api.OK, "d", "e", "f", "g", "h", "i", "j", "k")
	expectStands(t, l, 1, 2, entries(2, "d", "e", "f", "g", "h", "i", "j", "k")...)
	if !slices.Equal(told, want) {
		t.Errorf("an answer became %+v", told)
	}
}

// Of a nil log: ErrNil, nothing, 0.
func TestNilLog(t *testing.T) {
	var l *Log
	for range 2 {
		if l.Floor() != 0 || l.Last() != 0 || l.Len() != 0 {
			t.Errorf("a nil log stands at %d, %d, %d", l.Floor(), l.Last(), l.Len())
		}
		for _, rev := range []int64{math.MinInt64, -1, 0, 1, api.MaxRev, math.MaxInt64} {
			expectAdd(t, l, rev, api.ErrNil)
			expectAdd(t, l, rev, api.ErrNil, "a")
			expectRefused(t, l, api.ErrNil, rev)
		}
	}
}

// model is a log by the chapter's words.
type model struct {
	most        int
	entries     []Entry
	floor, last int64
}

func (m *model) add(rev int64, c []mv.Change) api.Errno {
	if rev <= m.last {
		return api.ErrArg
	}
	for _, x := range c {
		m.entries = append(m.entries, Entry{rev, x})
	}
	m.last = rev
	for len(m.entries) > max(m.most, 1) {
		m.floor = m.entries[0].Rev
		m.entries = m.above(m.floor)
	}
	return api.OK
}

// above: entries above a revision.
func (m *model) above(rev int64) []Entry {
	var l []Entry
	for _, x := range m.entries {
		if x.Rev > rev {
			l = append(l, x)
		}
	}
	return l
}

// expectAsked: the log answers as the model at a revision.
func expectAsked(t *testing.T, l *Log, m *model, rev int64) {
	t.Helper()
	switch {
	case rev < m.floor:
		expectRefused(t, l, api.ErrGone, rev)
	case rev > m.last:
		expectRefused(t, l, api.ErrArg, rev)
	default:
		expectSince(t, l, rev, m.above(rev)...)
	}
}

// expectModel: the log answers as the model at each revision.
func expectModel(t *testing.T, l *Log, m *model) {
	t.Helper()
	expectStands(t, l, m.floor, m.last, m.entries...)
	for rev := int64(-2); rev <= m.last+2; rev++ {
		expectAsked(t, l, m, rev)
	}
	if t.Failed() {
		t.Fatalf("of %+v", m)
	}
}

// P20.1, P20.2: logs by chance, step by step, against the chapter's words.
func TestLogsByChance(t *testing.T) {
	r := rand.New(rand.NewSource(20))
	went := 0
	for range 300 {
		most := r.Intn(12) - 1
		l, m := New(most), &model{most: most}
		for i := range 40 {
			var keys []string
			for j := range r.Intn(5) {
				keys = append(keys, fmt.Sprintf("%d.%d", i, j))
			}
			rev := m.last + r.Int63n(4) - 1
			was := m.floor
			expectAdd(t, l, rev, m.add(rev, changes(keys...)), keys...)
			if m.floor > was {
				went++
			}
			expectModel(t, l, m)
		}
	}
	if went < 1000 {
		t.Errorf("entries went %d times", went)
	}
}

// P20.3: Next behind Next, from where it told on, is together what Next tells
// later from the first revision on.
func TestChained(t *testing.T) {
	r := rand.New(rand.NewSource(203))
	fits := func(c mv.Change) bool { return c.Key[0] < 'd' }
	long := 0
	for range 300 {
		l := New(30)
		add := func() {
			var keys []string
			for range r.Intn(4) {
				keys = append(keys, string(rune('a'+r.Intn(6))))
			}
			expectAdd(t, l, l.Last()+1+r.Int63n(3), api.OK, keys...)
		}
		for range r.Intn(20) {
			add()
		}
		from := l.Floor() + r.Int63n(l.Last()-l.Floor()+1)
		var told []Entry
		for at := from; l.Floor() <= from; add() {
			got, to, e := l.Next(at, fits)
			if e != api.OK || to != l.Last() {
				t.Fatalf("Next(%d) is %+v, %d, %d", at, got, to, e)
			}
			told, at = append(told, got...), to
			expectNext(t, l, from, fits, told...)
			for range r.Intn(3) {
				if l.Len() < 26 {
					add()
				}
			}
		}
		long = max(long, len(told))
	}
	if long < 10 {
		t.Errorf("at most %d were told", long)
	}
}

// sameRoom: do two lists that are not empty stand in the same memory?
func sameRoom(a, b []Entry) bool {
	return &a[:cap(a)][cap(a)-1] == &b[:cap(b)][cap(b)-1]
}

// P1, P0.5: many revisions are added, and go, soon; no more is kept than may
// be, and nothing of what went.
func TestManyRevisions(t *testing.T) {
	const most, many = 1000, 300000
	l := New(most)
	same := 0
	for rev := int64(1); rev <= many; rev++ {
		was := l.entries
		if e := l.Add(rev, []mv.Change{{Key: "a", Val: "v"}}); e != api.OK {
			t.Fatal(rev, e)
		}
		if rev > most && sameRoom(was, l.entries) {
			same++
			if was[0] != (Entry{}) {
				t.Fatalf("%+v is kept at %d", was[0], rev)
			}
		}
		if cap(l.entries) > 3*most {
			t.Fatalf("room for %d at %d", cap(l.entries), rev)
		}
	}
	if same < many/2 {
		t.Errorf("room was made anew %d times", many-same)
	}
	if l.Len() != most || l.Floor() != many-most || l.Last() != many {
		t.Errorf("%d from %d to %d", l.Len(), l.Floor(), l.Last())
	}
	for rev := int64(many - most); rev <= many; rev++ {
		if got, e := l.Since(rev); e != api.OK || len(got) != int(many-rev) {
			t.Fatalf("Since(%d) is of %d, %d", rev, len(got), e)
		}
	}
	l = New(math.MaxInt)
	for rev := int64(1); rev <= many; rev++ {
		l.Add(rev, []mv.Change{{Key: "a"}})
	}
	if l.Len() != many || l.Floor() != 0 {
		t.Errorf("%d from %d", l.Len(), l.Floor())
	}
}

// P1: no call panics, whatever it is given.
func FuzzLog(f *testing.F) {
	f.Add(2, int64(1), int64(2), int64(3), int64(1), 1, "a")
	f.Add(-1, int64(math.MinInt64), int64(math.MaxInt64), int64(0), int64(-1), 3, "")
	f.Fuzz(func(t *testing.T, most int, a, b, d, rev int64, n int, key string) {
		l, m := New(most), &model{most: most}
		for _, at := range []int64{a, b, d} {
			keys := slices.Repeat([]string{key}, max(n%8, 0))
			expectAdd(t, l, at, m.add(at, changes(keys...)), keys...)
			expectStands(t, l, m.floor, m.last, m.entries...)
		}
		expectAsked(t, l, m, rev)
	})
}
