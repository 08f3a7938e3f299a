package mv

import (
	"math"
	"slices"
	"testing"

	"larum/api"
)

// wide are limits that no test here comes to.
var wide = Limits{Keys: 1000, Versions: 10000}

func set(key, val string) Change { return Change{Key: key, Val: val} }

func gone(key string) Change { return Change{Key: key, Gone: true} }

// of: a store of such limits, of one commit each.
func of(t *testing.T, lim Limits, commits ...[]Change) *Store {
	t.Helper()
	s := New(lim)
	for i, l := range commits {
		expectCommit(t, s, int64(i+1), l...)
	}
	return s
}

// some is a store at the revision 6: of a there are three versions, b goes and
// comes again, c goes, d stays as it came.
func some(t *testing.T) *Store {
	t.Helper()
	return of(t, wide,
		[]Change{set("a", "a1"), set("c", "c1")},
		[]Change{set("b", "b2"), set("a", "a2")},
		[]Change{gone("b")},
		[]Change{set("d", ""), gone("c")},
		[]Change{set("b", "b5")},
		[]Change{set("a", "a6")})
}

// expectStands: the store's revision, floor, keys and versions.
func expectStands(t *testing.T, s *Store, rev, floor int64, keys, versions int) {
	t.Helper()
	if s.Rev() != rev || s.Floor() != floor || s.Keys() != keys || s.Versions() != versions {
		t.Errorf("the store stands at %d, %d, %d, %d, not at %d, %d, %d, %d",
			s.Rev(), s.Floor(), s.Keys(), s.Versions(), rev, floor, keys, versions)
	}
}

// expectCommit: changes may be made, and are; the revision is told.
func expectCommit(t *testing.T, s *Store, want int64, l ...Change) {
	t.Helper()
	was := slices.Clone(l)
	if e := s.May(l); e != api.OK || s.Rev() != want-1 {
		t.Errorf("May(%+v) is %d, at %d", l, e, s.Rev())
	}
	if rev, e := s.Commit(l); rev != want || e != api.OK || s.Rev() != want {
		t.Errorf("Commit(%+v) is %d, %d, at %d", l, rev, e, s.Rev())
	}
	if !slices.Equal(l, was) {
		t.Errorf("%+v became %+v", was, l)
	}
}

// expectRefused: changes may not be made, and nothing has changed.
func expectRefused(t *testing.T, s *Store, want api.Errno, l ...Change) {
	t.Helper()
	was := told(s)
	if e := s.May(l); e != want {
		t.Errorf("May(%+v) is %d, not %d", l, e, want)
	}
	if rev, e := s.Commit(l); rev != 0 || e != want {
		t.Errorf("Commit(%+v) is %d, %d, not %d", l, rev, e, want)
	}
	if is := told(s); !slices.EqualFunc(is, was, slices.Equal[[]Item]) {
		t.Errorf("%+v became %+v by %+v", was, is, l)
	}
}

// told: how a store stands, and what it tells at each revision.
func told(s *Store) [][]Item {
	l := [][]Item{{{Rev: s.Rev()}, {Rev: s.Floor()}, {Rev: int64(s.Keys())}, {Rev: int64(s.Versions())}}}
	for rev := s.Floor(); rev <= s.Rev() && rev < s.Floor()+100; rev++ {
		at, _, _ := s.Range("", "", math.MaxInt, rev)
		l = append(l, at)
	}
	return l
}

// expectGet: this is the key's value at each of these revisions.
func expectGet(t *testing.T, s *Store, want Item, revs ...int64) {
	t.Helper()
	for _, rev := range revs {
		if got, e := s.Get(want.Key, rev); got != want || e != api.OK {
			t.Errorf("Get(%q, %d) is %+v, %d, not %+v", want.Key, rev, got, e, want)
		}
	}
}

// expectNoGet: this error is told of a key at each of these revisions.
func expectNoGet(t *testing.T, s *Store, want api.Errno, key string, revs ...int64) {
	t.Helper()
	for _, rev := range revs {
		if got, e := s.Get(key, rev); got != (Item{}) || e != want {
			t.Errorf("Get(%q, %d) is %+v, %d, not %d", key, rev, got, e, want)
		}
	}
}

// ask is what Range is asked.
type ask struct {
	prefix, after string
	n             int
	rev           int64
}

func (a ask) of(s *Store) ([]Item, bool, api.Errno) { return s.Range(a.prefix, a.after, a.n, a.rev) }

// expectRange: just these keys are told, and whether there are more.
func expectRange(t *testing.T, s *Store, a ask, more bool, keys ...string) {
	t.Helper()
	l, is, e := a.of(s)
	var got []string
	for _, x := range l {
		got = append(got, x.Key)
		expectGet(t, s, x, a.rev)
	}
	if !slices.Equal(got, keys) || is != more || e != api.OK {
		t.Errorf("Range(%+v) is %q, %v, %d, not %q, %v", a, got, is, e, keys, more)
	}
}

// expectNoRange: this error is told.
func expectNoRange(t *testing.T, s *Store, a ask, want api.Errno) {
	t.Helper()
	if l, more, e := a.of(s); len(l) != 0 || more || e != want {
		t.Errorf("Range(%+v) is %+v, %v, %d, not %d", a, l, more, e, want)
	}
}

func expectCompact(t *testing.T, s *Store, rev int64, want api.Errno) {
	t.Helper()
	was := told(s)
	if e := s.Compact(rev); e != want {
		t.Errorf("Compact(%d) is %d, not %d", rev, e, want)
	}
	if is := told(s); want != api.OK && !slices.EqualFunc(is, was, slices.Equal[[]Item]) {
		t.Errorf("%+v became %+v by Compact(%d)", was, is, rev)
	}
}

// P19.1: an empty store.
func TestNew(t *testing.T) {
	for _, s := range []*Store{New(Limits{}), New(wide), New(Limits{math.MinInt, math.MaxInt}), New(Limits{math.MaxInt, math.MinInt}), {}} {
		expectStands(t, s, 0, 0, 0, 0)
		expectNoGet(t, s, api.ErrNone, "a", 0)
		expectNoGet(t, s, api.ErrNone, "", 0)
		expectNoGet(t, s, api.ErrArg, "a", math.MinInt64, -1, 1, math.MaxInt64)
		expectRange(t, s, ask{"", "", 10, 0}, false)
		expectRange(t, s, ask{"", "", 0, 0}, false)
		expectNoRange(t, s, ask{"", "", 10, 1}, api.ErrArg)
		expectCompact(t, s, 0, api.OK)
		expectCompact(t, s, 1, api.ErrArg)
		expectRefused(t, s, api.ErrArg)
		expectRefused(t, s, api.ErrArg, gone("a"))
		expectCommit(t, s, 1, set("a", "1"))
		expectStands(t, s, 1, 0, 1, 1)
	}
}

// P19.1: Commit makes each change a version of the one revision; Keys and
// Versions count them.
func TestCommit(t *testing.T) {
	s := New(wide)
	expectCommit(t, s, 1, set("a", "1"), set("b", ""), set("c", "\xFF\x00"))
	expectStands(t, s, 1, 0, 3, 3)
	expectGet(t, s, Item{"a", "1", 1}, 1)
	expectGet(t, s, Item{"b", "", 1}, 1)
	expectGet(t, s, Item{"c", "\xFF\x00", 1}, 1)
	// The same value once more is a version, too.
	expectCommit(t, s, 2, set("a", "1"))
	expectStands(t, s, 2, 0, 3, 4)
	expectGet(t, s, Item{"a", "1", 2}, 2)
	expectGet(t, s, Item{"b", "", 1}, 1, 2)
	expectCommit(t, s, 3, gone("a"), set("d", "4"), gone("c"), set("b", "2"))
	expectStands(t, s, 3, 0, 2, 8)
	expectCommit(t, s, 4, gone("b"), gone("d"))
	expectStands(t, s, 4, 0, 0, 10)
	expectCommit(t, s, 5, set("a", "5"))
	expectStands(t, s, 5, 0, 1, 11)
	expectRange(t, s, ask{"", "", 9, 1}, false, "a", "b", "c")
	expectRange(t, s, ask{"", "", 9, 3}, false, "b", "d")
	expectRange(t, s, ask{"", "", 9, 4}, false)
	expectRange(t, s, ask{"", "", 9, 5}, false, "a")
}

// P19.1: ErrArg of no change, an empty key, a key twice, one Gone that has no
// value; wherever among others.
func TestRefusedChanges(t *testing.T) {
	s := some(t)
	expectRefused(t, s, api.ErrArg)
	expectRefused(t, s, api.ErrArg, []Change{}...)
	good := []Change{set("a", "x"), gone("b"), set("e", "y")}
	wrong := [][]Change{
		{{}},
		{set("", "v")},
		{gone("")},
		{set("f", "1"), set("f", "1")},
		{set("f", "1"), set("f", "2")},
		{set("d", "1"), gone("d")},
		{gone("d"), set("d", "1")},
		{gone("d"), gone("d")},
		{gone("never")},
		{gone("c")},
		{Change{"c", "v", true}},
		{set("f", "1"), gone("f")},
		{gone("f"), set("f", "1")},
	}
	for _, w := range wrong {
		expectRefused(t, s, api.ErrArg, w...)
		for i := range len(good) + 1 {
			expectRefused(t, s, api.ErrArg, slices.Insert(slices.Clone(good), i, w...)...)
		}
		if len(w) == 2 {
			expectRefused(t, s, api.ErrArg, append(append(w[:1:1], good...), w[1])...)
		}
	}
	expectCommit(t, s, 7, good...)
	expectRefused(t, s, api.ErrArg, gone("b"))
	expectCommit(t, s, 8, set("b", "again"))
	expectCommit(t, s, 9, Change{"b", "a value that is not told", true})
	expectNoGet(t, s, api.ErrNone, "b", 9)
}

// P19.1: so many keys as Keys have a value, not one more, and those that go in
// the commit make room for those that come.
func TestFullOfKeys(t *testing.T) {
	s := New(Limits{Keys: 3, Versions: 1000})
	expectRefused(t, s, api.ErrFull, set("a", ""), set("b", ""), set("c", ""), set("d", ""))
	expectCommit(t, s, 1, set("a", ""), set("b", ""))
	expectRefused(t, s, api.ErrFull, set("c", ""), set("d", ""))
	expectCommit(t, s, 2, set("c", ""))
	expectStands(t, s, 2, 0, 3, 3)
	expectRefused(t, s, api.ErrFull, set("d", ""))
	expectRefused(t, s, api.ErrFull, set("a", "x"), set("d", ""))
	expectRefused(t, s, api.ErrFull, set("d", ""), gone("a"), set("e", ""))
	expectCommit(t, s, 3, set("a", "x"), set("b", "x"), set("c", "x"))
	expectCommit(t, s, 4, set("d", ""), gone("a"))
	expectStands(t, s, 4, 0, 3, 8)
	expectCommit(t, s, 5, gone("b"), gone("c"), set("e", ""), set("f", ""))
	expectRange(t, s, ask{"", "", 9, 5}, false, "d", "e", "f")
	expectRefused(t, s, api.ErrFull, set("a", ""))
	expectCommit(t, s, 6, gone("d"))
	expectCommit(t, s, 7, set("a", ""))
	expectRefused(t, s, api.ErrFull, set("d", ""))
	// Compacting makes no room for keys.
	expectCompact(t, s, 7, api.OK)
	expectRefused(t, s, api.ErrFull, set("d", ""))
	expectStands(t, s, 7, 7, 3, 3)
}

// P19.1: so many versions as Versions, not one more; those that go count too.
func TestFullOfVersions(t *testing.T) {
	s := New(Limits{Keys: 10, Versions: 4})
	expectRefused(t, s, api.ErrFull, set("a", ""), set("b", ""), set("c", ""), set("d", ""), set("e", ""))
	expectCommit(t, s, 1, set("a", ""), set("b", ""))
	expectRefused(t, s, api.ErrFull, set("a", ""), set("b", ""), set("c", ""))
	expectRefused(t, s, api.ErrFull, gone("a"), gone("b"), set("c", ""))
	expectCommit(t, s, 2, gone("a"), set("b", ""))
	expectStands(t, s, 2, 0, 1, 4)
	expectRefused(t, s, api.ErrFull, gone("b"))
	expectRefused(t, s, api.ErrFull, set("b", ""))
	expectCompact(t, s, 1, api.OK)
	expectStands(t, s, 2, 1, 1, 4)
	expectRefused(t, s, api.ErrFull, gone("b"))
	expectCompact(t, s, 2, api.OK)
	expectStands(t, s, 2, 2, 1, 1)
	expectRefused(t, s, api.ErrFull, set("a", ""), set("b", ""), set("c", ""), set("d", ""))
	expectCommit(t, s, 3, set("a", ""), set("b", ""), set("c", ""))
	expectStands(t, s, 3, 2, 3, 4)
	expectRefused(t, s, api.ErrFull, gone("c"))
	// Both at once.
	s = of(t, Limits{Keys: 2, Versions: 2}, []Change{set("a", ""), set("b", "")})
	expectRefused(t, s, api.ErrFull, set("c", ""))
	expectRefused(t, s, api.ErrFull, gone("a"))
}

// P19.1: limits below 1 are 1; the greatest ones have no end.
func TestLimits(t *testing.T) {
	for _, n := range []int{1, 0, -1, -1000, math.MinInt} {
		s := New(Limits{n, 1000})
		expectRefused(t, s, api.ErrFull, set("a", ""), set("b", ""))
		expectCommit(t, s, 1, set("a", ""))
		expectRefused(t, s, api.ErrFull, set("b", ""))
		expectCommit(t, s, 2, set("b", ""), gone("a"))
		expectCommit(t, s, 3, gone("b"))
		expectCommit(t, s, 4, set("a", ""))
		s = New(Limits{1000, n})
		expectRefused(t, s, api.ErrFull, set("a", ""), set("b", ""))
		expectCommit(t, s, 1, set("a", ""))
		expectRefused(t, s, api.ErrFull, set("a", ""))
		expectRefused(t, s, api.ErrFull, gone("a"))
		s = New(Limits{n, n})
		expectCommit(t, s, 1, set("a", ""))
		expectRefused(t, s, api.ErrFull, set("a", ""))
	}
	s := of(t, Limits{math.MaxInt, math.MaxInt}, []Change{set("a", ""), set("b", "")})
	expectCommit(t, s, 2, set("c", ""), gone("a"))
	expectStands(t, s, 2, 0, 2, 4)
	// A store made by hand has limits below 1.
	s = &Store{}
	expectCommit(t, s, 1, set("a", ""))
	expectRefused(t, s, api.ErrFull, set("b", ""))
	expectRefused(t, s, api.ErrFull, gone("a"))
}

// P19.1: ErrArg ahead of ErrFull, be it of keys or of versions.
func TestArgAheadOfFull(t *testing.T) {
	for _, lim := range []Limits{{1, 100}, {100, 1}} {
		s := of(t, lim, []Change{set("a", "")})
		expectRefused(t, s, api.ErrFull, set("b", ""), set("c", ""))
		expectRefused(t, s, api.ErrArg)
		expectRefused(t, s, api.ErrArg, set("b", ""), set("c", ""), set("", ""))
		expectRefused(t, s, api.ErrArg, set("b", ""), set("b", ""))
		expectRefused(t, s, api.ErrArg, set("b", ""), set("c", ""), gone("d"))
		expectRefused(t, s, api.ErrArg, gone("b"))
	}
}

// P19.1: behind MaxRev there is no revision.
func TestLastRevision(t *testing.T) {
	s := of(t, wide, []Change{set("a", "1"), set("b", "1")})
	s.rev = api.MaxRev - 1
	expectCommit(t, s, api.MaxRev, set("a", "2"), gone("b"))
	expectGet(t, s, Item{"a", "2", api.MaxRev}, api.MaxRev)
	expectGet(t, s, Item{"a", "1", 1}, 1, api.MaxRev-1)
	expectNoGet(t, s, api.ErrArg, "a", api.MaxRev+1, math.MaxInt64)
	expectRefused(t, s, api.ErrFull, set("a", "3"))
	expectRefused(t, s, api.ErrFull, gone("a"))
	expectRefused(t, s, api.ErrArg)
	expectRefused(t, s, api.ErrArg, gone("b"))
	expectCompact(t, s, api.MaxRev+1, api.ErrArg)
	expectCompact(t, s, api.MaxRev, api.OK)
	expectStands(t, s, api.MaxRev, api.MaxRev, 1, 1)
	expectRefused(t, s, api.ErrFull, set("a", "3"))
}

// P19.2: Get below 0, at 0, at each revision, above; of a key never there,
// gone, and there again; an Item's Rev.
func TestGet(t *testing.T) {
	s := some(t)
	for _, key := range []string{"a", "b", "c", "never", ""} {
		expectNoGet(t, s, api.ErrNone, key, 0)
		expectNoGet(t, s, api.ErrArg, key, math.MinInt64, -2, -1, 7, 8, api.MaxRev, math.MaxInt64)
	}
	expectGet(t, s, Item{"a", "a1", 1}, 1)
	expectGet(t, s, Item{"a", "a2", 2}, 2, 3, 4, 5)
	expectGet(t, s, Item{"a", "a6", 6}, 6)
	expectNoGet(t, s, api.ErrNone, "b", 1, 3, 4)
	expectGet(t, s, Item{"b", "b2", 2}, 2)
	expectGet(t, s, Item{"b", "b5", 5}, 5, 6)
	expectGet(t, s, Item{"c", "c1", 1}, 1, 2, 3)
	expectNoGet(t, s, api.ErrNone, "c", 4, 5, 6)
	expectNoGet(t, s, api.ErrNone, "d", 1, 2, 3)
	expectGet(t, s, Item{"d", "", 4}, 4, 5, 6)
	expectNoGet(t, s, api.ErrNone, "never", 1, 6)
	expectNoGet(t, s, api.ErrNone, "", 1, 6)
	expectNoGet(t, s, api.ErrNone, "A", 6)
}

// P19.2: below the floor ErrGone, of a key that is not there too; below 0
// ErrArg still.
func TestAskedBelowTheFloor(t *testing.T) {
	s := some(t)
	expectCompact(t, s, 4, api.OK)
	for _, key := range []string{"a", "c", "never", ""} {
		expectNoGet(t, s, api.ErrGone, key, 0, 1, 2, 3)
		expectNoGet(t, s, api.ErrArg, key, math.MinInt64, -1, 7, math.MaxInt64)
		for _, n := range []int{math.MinInt, 0, 1, math.MaxInt} {
			expectNoRange(t, s, ask{key, "", n, 0}, api.ErrGone)
			expectNoRange(t, s, ask{"", key, n, 3}, api.ErrGone)
			expectNoRange(t, s, ask{"", key, n, -1}, api.ErrArg)
			expectNoRange(t, s, ask{"", key, n, math.MinInt64}, api.ErrArg)
			expectNoRange(t, s, ask{"", key, n, 7}, api.ErrArg)
			expectNoRange(t, s, ask{"", key, n, math.MaxInt64}, api.ErrArg)
		}
	}
	expectGet(t, s, Item{"a", "a2", 2}, 4, 5)
	expectNoGet(t, s, api.ErrNone, "b", 4)
	expectNoGet(t, s, api.ErrNone, "c", 4)
	expectRange(t, s, ask{"", "", 9, 4}, false, "a", "d")
	expectRange(t, s, ask{"", "", 9, 6}, false, "a", "b", "d")
}

// P19.2: Range at each revision tells the keys that have a value there.
func TestRangeByRevisions(t *testing.T) {
	s := some(t)
	for rev, want := range [][]string{{}, {"a", "c"}, {"a", "b", "c"}, {"a", "c"}, {"a", "d"}, {"a", "b", "d"}, {"a", "b", "d"}} {
		expectRange(t, s, ask{"", "", 9, int64(rev)}, false, want...)
		expectRange(t, s, ask{"", "", 0, int64(rev)}, len(want) > 0)
	}
	// No more stand behind the last one that has a value there, though others
	// have one at other revisions.
	expectRange(t, s, ask{"", "", 2, 1}, false, "a", "c")
	expectRange(t, s, ask{"", "", 1, 6}, true, "a")
	expectRange(t, s, ask{"", "", 1, 3}, true, "a")
	expectRange(t, s, ask{"", "b", 1, 3}, false, "c")
	expectRange(t, s, ask{"", "a", 0, 4}, true)
	expectRange(t, s, ask{"", "d", 0, 4}, false)
	expectRange(t, s, ask{"c", "", 0, 4}, false)
}

// names is a store of keys that look alike, which come out of their order.
func names(t *testing.T) (*Store, []string) {
	t.Helper()
	l := []string{"\x00", "A", "Z", "a", "a\x00", "a\x00b", "a/", "a/1", "a/10", "a/2", "a\xFF", "aa", "ab", "b", "é", "z", "\xE9", "\xFF", "\xFF\xFF"}
	slices.Sort(l)
	s := New(wide)
	var some []Change
	for i := range l {
		some = append(some, set(l[(i*7+3)%len(l)], "v"))
	}
	expectCommit(t, s, 1, some[:5]...)
	expectCommit(t, s, 2, some[5:6]...)
	expectCommit(t, s, 3, some[6:]...)
	return s, l
}

// P19.2: keys rise by their bytes; by prefixes, and above keys, be they there
// or not.
func TestRangeByKeys(t *testing.T) {
	s, all := names(t)
	expectRange(t, s, ask{"", "", 99, 3}, false, all...)
	expectRange(t, s, ask{"a/", "", 99, 3}, false, "a/", "a/1", "a/10", "a/2")
	expectRange(t, s, ask{"a/1", "", 99, 3}, false, "a/1", "a/10")
	expectRange(t, s, ask{"a\x00", "", 99, 3}, false, "a\x00", "a\x00b")
	expectRange(t, s, ask{"\xFF", "", 99, 3}, false, "\xFF", "\xFF\xFF")
	expectRange(t, s, ask{"\xC3", "", 99, 3}, false, "é")
	expectRange(t, s, ask{"a/3", "", 99, 3}, false)
	expectRange(t, s, ask{"a/10/", "", 99, 3}, false)
	expectRange(t, s, ask{"\xFF\xFF\xFF", "", 99, 3}, false)
	expectRange(t, s, ask{"", "a/10", 3, 3}, true, "a/2", "aa", "ab")
	expectRange(t, s, ask{"", "a/11", 3, 3}, true, "a/2", "aa", "ab")
	expectRange(t, s, ask{"", "\xFF", 3, 3}, false, "\xFF\xFF")
	expectRange(t, s, ask{"", "\xFF\xFF", 3, 3}, false)
	expectRange(t, s, ask{"", "\x00", 1, 3}, true, "A")
	expectRange(t, s, ask{"a/", "a/", 99, 3}, false, "a/1", "a/10", "a/2")
	expectRange(t, s, ask{"a/", "a/1", 99, 3}, false, "a/10", "a/2")
	expectRange(t, s, ask{"a/", "a/11", 99, 3}, false, "a/2")
	expectRange(t, s, ask{"a/", "a", 99, 3}, false, "a/", "a/1", "a/10", "a/2")
	expectRange(t, s, ask{"a/", "A", 1, 3}, true, "a/")
	expectRange(t, s, ask{"a/", "a/2", 99, 3}, false)
	expectRange(t, s, ask{"a/", "b", 99, 3}, false)
	// Each prefix with each key to be above of.
	for _, prefix := range append(all, "", "x") {
		for _, after := range append(all, "", "x") {
			var want []string
			for _, key := range all {
				if key > after && len(key) >= len(prefix) && key[:len(prefix)] == prefix {
					want = append(want, key)
				}
			}
			expectRange(t, s, ask{prefix, after, 99, 3}, false, want...)
		}
	}
}

// P19.2: n below 1, one fewer than there are, as many, one more, many more.
func TestRangeByNumber(t *testing.T) {
	s, all := names(t)
	for _, n := range []int{0, -1, -2, math.MinInt} {
		expectRange(t, s, ask{"", "", n, 3}, true)
		expectRange(t, s, ask{"a/", "a/10", n, 3}, true)
		expectRange(t, s, ask{"a/", "a/2", n, 3}, false)
		expectRange(t, s, ask{"", "", n, 0}, false)
	}
	for n := 1; n < len(all); n++ {
		expectRange(t, s, ask{"", "", n, 3}, true, all[:n]...)
	}
	for _, n := range []int{len(all), len(all) + 1, 1 << 40, math.MaxInt - 1, math.MaxInt} {
		expectRange(t, s, ask{"", "", n, 3}, false, all...)
	}
	expectRange(t, s, ask{"a/", "", 3, 3}, true, "a/", "a/1", "a/10")
	expectRange(t, s, ask{"a/", "", 4, 3}, false, "a/", "a/1", "a/10", "a/2")
	expectRange(t, s, ask{"a/", "", 5, 3}, false, "a/", "a/1", "a/10", "a/2")
	// Page behind page.
	after := ""
	for i := 0; i < len(all); i += 3 {
		end := min(i+3, len(all))
		expectRange(t, s, ask{"", after, 3, 3}, end < len(all), all[i:end]...)
		after = all[end-1]
	}
}

// P19.2: an Item of Range has the value of that revision, and the version's.
func TestRangeItems(t *testing.T) {
	s := some(t)
	for rev, want := range map[int64][]Item{
		1: {{"a", "a1", 1}, {"c", "c1", 1}},
		2: {{"a", "a2", 2}, {"b", "b2", 2}, {"c", "c1", 1}},
		5: {{"a", "a2", 2}, {"b", "b5", 5}, {"d", "", 4}},
		6: {{"a", "a6", 6}, {"b", "b5", 5}, {"d", "", 4}},
	} {
		if got, more, e := s.Range("", "", 9, rev); !slices.Equal(got, want) || more || e != api.OK {
			t.Errorf("at %d %+v, %v, %d, not %+v", rev, got, more, e, want)
		}
	}
}

// P19.3: Compact below the floor, at it, between, at the revision and above;
// example 1.
func TestCompact(t *testing.T) {
	s := some(t)
	expectStands(t, s, 6, 0, 3, 9)
	for _, rev := range []int64{math.MinInt64, -1, 7, 8, math.MaxInt64} {
		expectCompact(t, s, rev, api.ErrArg)
	}
	for _, step := range []struct {
		rev      int64
		versions int
	}{{0, 9}, {1, 9}, {2, 8}, {2, 8}, {3, 6}, {4, 4}, {4, 4}, {5, 4}, {6, 3}, {6, 3}} {
		expectCompact(t, s, step.rev, api.OK)
		expectStands(t, s, 6, step.rev, 3, step.versions)
		for _, rev := range []int64{step.rev - 1, 0, -1, 7} {
			if rev < step.rev || rev > 6 {
				expectCompact(t, s, rev, api.ErrArg)
			}
		}
	}
	expectRange(t, s, ask{"", "", 9, 6}, false, "a", "b", "d")
	// All at once is the same.
	s = some(t)
	expectCompact(t, s, 6, api.OK)
	expectStands(t, s, 6, 6, 3, 3)
	s = of(t, wide, []Change{set("a", "1")}, []Change{set("a", "2")})
	expectCompact(t, s, 1, api.OK)
	expectGet(t, s, Item{"a", "1", 1}, 1)
	expectCompact(t, s, 2, api.OK)
	expectNoGet(t, s, api.ErrGone, "a", 1)
	expectGet(t, s, Item{"a", "2", 2}, 2)
}

// P19.3: keys that have no version any more go from the map, others stay; then
// they come again.
func TestCompactLetsKeysGo(t *testing.T) {
	s := some(t)
	for rev, want := range []int{4, 4, 4, 4, 3, 3, 3} {
		expectCompact(t, s, int64(rev), api.OK)
		if len(s.chains) != want {
			t.Errorf("%d keys at %d, not %d", len(s.chains), rev, want)
		}
	}
	expectCommit(t, s, 7, gone("a"), gone("b"), gone("d"))
	expectStands(t, s, 7, 6, 0, 6)
	expectRange(t, s, ask{"", "", 9, 6}, false, "a", "b", "d")
	expectCompact(t, s, 7, api.OK)
	expectStands(t, s, 7, 7, 0, 0)
	expectRange(t, s, ask{"", "", 9, 7}, false)
	if len(s.chains) != 0 || len(s.order) != 0 {
		t.Errorf("%d keys, %d in order stay", len(s.chains), len(s.order))
	}
	expectRefused(t, s, api.ErrArg, gone("a"))
	expectCommit(t, s, 8, set("c", "8"), set("a", "8"))
	expectStands(t, s, 8, 7, 2, 2)
	expectNoGet(t, s, api.ErrNone, "a", 7)
	expectGet(t, s, Item{"a", "8", 8}, 8)
	expectRange(t, s, ask{"", "", 9, 7}, false)
	expectRange(t, s, ask{"", "", 9, 8}, false, "a", "c")
	expectCompact(t, s, 8, api.OK)
	expectStands(t, s, 8, 8, 2, 2)
	expectNoGet(t, s, api.ErrGone, "a", 7)
}

// P19.3: a Compact between versions leaves what counts there.
func TestCompactBetween(t *testing.T) {
	s := of(t, wide,
		[]Change{set("a", "1")},
		[]Change{set("x", "")},
		[]Change{set("x", "")},
		[]Change{gone("a")},
		[]Change{set("x", "")})
	expectCompact(t, s, 3, api.OK)
	expectStands(t, s, 5, 3, 1, 4)
	expectGet(t, s, Item{"a", "1", 1}, 3)
	expectNoGet(t, s, api.ErrNone, "a", 4, 5)
	expectCommit(t, s, 6, set("a", "6"))
	expectCompact(t, s, 4, api.OK)
	expectStands(t, s, 6, 4, 2, 3)
	expectNoGet(t, s, api.ErrNone, "a", 4, 5)
	expectGet(t, s, Item{"a", "6", 6}, 6)
	expectRange(t, s, ask{"", "", 9, 5}, false, "x")
	expectRange(t, s, ask{"", "", 9, 6}, false, "a", "x")
}

// Rules 4 and 5: the store shares no list with its callers.
func TestSharesNothing(t *testing.T) {
	s := New(wide)
	l := []Change{set("a", "1"), set("b", "2"), set("c", "3")}
	expectCommit(t, s, 1, l...)
	for i := range l {
		l[i] = set("spoilt", "spoilt")
	}
	want := []Item{{"a", "1", 1}, {"b", "2", 1}, {"c", "3", 1}}
	for range 3 {
		got, _, _ := s.Range("", "", 9, 1)
		other, _, _ := s.Range("", "", 2, 1)
		if !slices.Equal(got, want) || !slices.Equal(other, want[:2]) {
			t.Errorf("%+v and %+v, not %+v", got, other, want)
		}
		_ = append(other, Item{"spoilt", "", 9})
		other[0] = Item{"spoilt", "", 9}
		if !slices.Equal(got, want) {
			t.Errorf("another answer became %+v", got)
		}
		for i := range got {
			got[i] = Item{"spoilt", "", 9}
		}
		_ = append(got[:1], Item{"spoilt", "", 9})
	}
}

// Of a nil store: ErrNil, 0, nothing.
func TestNilStore(t *testing.T) {
	var s *Store
	for range 2 {
		expectStands(t, s, 0, 0, 0, 0)
		for _, l := range [][]Change{nil, {set("a", "1")}, {set("", "")}, {gone("a")}, {set("a", ""), set("a", "")}} {
			if e := s.May(l); e != api.ErrNil {
				t.Errorf("May(%+v) is %d", l, e)
			}
			if rev, e := s.Commit(l); rev != 0 || e != api.ErrNil {
				t.Errorf("Commit(%+v) is %d, %d", l, rev, e)
			}
		}
		for _, rev := range []int64{math.MinInt64, -1, 0, 1, api.MaxRev, math.MaxInt64} {
			expectNoGet(t, s, api.ErrNil, "a", rev)
			expectNoGet(t, s, api.ErrNil, "", rev)
			expectNoRange(t, s, ask{"", "", 9, rev}, api.ErrNil)
			expectNoRange(t, s, ask{"a", "b", math.MinInt, rev}, api.ErrNil)
			if e := s.Compact(rev); e != api.ErrNil {
				t.Errorf("Compact(%d) is %d", rev, e)
			}
		}
	}
}
