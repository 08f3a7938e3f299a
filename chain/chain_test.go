package chain

import (
	"math"
	"math/rand"
	"slices"
	"strconv"
	"testing"

	"larum/api"
)

// of: a chain of versions that may be put.
func of(t *testing.T, l ...Version) *Chain {
	t.Helper()
	c := New()
	for _, v := range l {
		expectPut(t, c, v, api.OK)
	}
	expectAll(t, c, l...)
	return c
}

// three are those of example 1.
func three() []Version {
	return []Version{{2, "a", false}, {5, "b", false}, {9, "", true}}
}

func expectPut(t *testing.T, c *Chain, v Version, want api.Errno) {
	t.Helper()
	if e := c.Put(v); e != want {
		t.Errorf("Put(%+v) is %d, not %d", v, e, want)
	}
}

// expectAll: c has just these versions.
func expectAll(t *testing.T, c *Chain, want ...Version) {
	t.Helper()
	if got := c.All(); !slices.Equal(got, want) || c.Len() != len(want) {
		t.Errorf("the chain has %+v, %d, not %+v", got, c.Len(), want)
	}
	last, ok := c.Last()
	if is := len(want) > 0; ok != is || is && last != want[len(want)-1] || !is && last != (Version{}) {
		t.Errorf("Last of %+v is %+v, %v", want, last, ok)
	}
}

// expectAt: this version counts at each of these revisions.
func expectAt(t *testing.T, c *Chain, want Version, revs ...int64) {
	t.Helper()
	for _, rev := range revs {
		if got, ok := c.At(rev); !ok || got != want {
			t.Errorf("At(%d) is %+v, %v, not %+v", rev, got, ok, want)
		}
	}
}

// expectNone: nothing counts at these revisions.
func expectNone(t *testing.T, c *Chain, revs ...int64) {
	t.Helper()
	for _, rev := range revs {
		if got, ok := c.At(rev); ok || got != (Version{}) {
			t.Errorf("At(%d) is %+v, %v", rev, got, ok)
		}
	}
}

// expectSpare: so many are spare from each of these revisions on.
func expectSpare(t *testing.T, c *Chain, want int, revs ...int64) {
	t.Helper()
	for _, rev := range revs {
		if got := c.Spare(rev); got != want {
			t.Errorf("Spare(%d) is %d, not %d", rev, got, want)
		}
	}
}

// expectCompact: of l, so many go at a revision, the first ones; then none is
// spare any more.
func expectCompact(t *testing.T, l []Version, rev int64, want int) *Chain {
	t.Helper()
	c := of(t, l...)
	expectSpare(t, c, want, rev)
	expectAll(t, c, l...)
	if got := c.Compact(rev); got != want {
		t.Errorf("Compact(%d) of %+v is %d, not %d", rev, l, got, want)
	}
	expectAll(t, c, l[want:]...)
	expectSpare(t, c, 0, rev)
	if got := c.Compact(rev); got != 0 {
		t.Errorf("Compact(%d) again is %d", rev, got)
	}
	expectAll(t, c, l[want:]...)
	return c
}

// P18.1: revisions from 1 to MaxRev.
func TestPutOfRevisions(t *testing.T) {
	for _, rev := range []int64{1, 2, 1000, 1 << 32, api.MaxRev - 1, api.MaxRev} {
		of(t, Version{rev, "v", false})
		of(t, Version{Rev: rev, Gone: true})
	}
	for _, rev := range []int64{0, -1, -2, -api.MaxRev, math.MinInt64, api.MaxRev + 1, api.MaxRev + 2, math.MaxInt64} {
		for _, l := range [][]Version{nil, {{1, "a", false}}, {{api.MaxRev, "a", false}}, three()} {
			c := of(t, l...)
			expectPut(t, c, Version{rev, "v", false}, api.ErrArg)
			expectPut(t, c, Version{Rev: rev, Gone: true}, api.ErrArg)
			expectAll(t, c, l...)
		}
	}
	c := of(t, Version{1, "", false}, Version{2, "", false}, Version{api.MaxRev, "", false})
	expectPut(t, c, Version{api.MaxRev, "", false}, api.ErrState)
}

// P18.1: ErrState at the last one's revision and below it, be that one Gone or
// not; then nothing has changed.
func TestPutOfFallingRevisions(t *testing.T) {
	for _, l := range [][]Version{{{9, "a", false}}, {{9, "", true}}, three(), {{2, "", true}, {9, "b", false}}} {
		c := of(t, l...)
		for _, rev := range []int64{9, 8, 5, 3, 2, 1} {
			expectPut(t, c, Version{rev, "v", false}, api.ErrState)
			expectPut(t, c, Version{Rev: rev, Gone: true}, api.ErrState)
		}
		expectPut(t, c, Version{}, api.ErrArg)
		expectAll(t, c, l...)
		expectPut(t, c, Version{10, "v", false}, api.OK)
		expectAll(t, c, append(l, Version{10, "v", false})...)
		expectPut(t, c, Version{10, "v", false}, api.ErrState)
	}
}

// P18.1: Put keeps all of a version: values alike, empty ones, any bytes, one
// that is Gone with a value, Gone twice.
func TestPutKeepsAll(t *testing.T) {
	c := of(t, Version{1, "a", false}, Version{2, "a", false}, Version{3, "", false}, Version{4, "\xFF\x00", false}, Version{5, "g", true}, Version{6, "", true}, Version{7, "a", false})
	expectAt(t, c, Version{2, "a", false}, 2)
	expectAt(t, c, Version{3, "", false}, 3)
	expectAt(t, c, Version{4, "\xFF\x00", false}, 4)
	expectNone(t, c, 5, 6)
	expectAt(t, c, Version{7, "a", false}, 7, 8)
}

// P18.1: At below the first one, at each version's revision, between, above;
// example 1.
func TestAt(t *testing.T) {
	c := of(t, three()...)
	expectNone(t, c, 1, 0, -1, math.MinInt64)
	expectAt(t, c, Version{2, "a", false}, 2, 3, 4)
	expectAt(t, c, Version{5, "b", false}, 5, 6, 7, 8)
	expectNone(t, c, 9, 10, 1000, api.MaxRev, math.MaxInt64)
	c = of(t, Version{3, "", true}, Version{5, "a", false}, Version{api.MaxRev, "b", false})
	expectNone(t, c, 2, 3, 4)
	expectAt(t, c, Version{5, "a", false}, 5, 6, api.MaxRev-1)
	expectAt(t, c, Version{api.MaxRev, "b", false}, api.MaxRev, api.MaxRev+1, math.MaxInt64)
	c = of(t, Version{1, "a", false})
	expectNone(t, c, 0)
	expectAt(t, c, Version{1, "a", false}, 1, 2, math.MaxInt64)
	expectNone(t, New(), math.MinInt64, 0, 1, math.MaxInt64)
}

// P18.1: Last, Len and All of none, of one that is Gone, of some.
func TestLast(t *testing.T) {
	of(t)
	of(t, Version{Rev: 4, Gone: true})
	of(t, Version{4, "x", true})
	of(t, Version{4, "", false})
	of(t, three()...)
	of(t, Version{1, "a", false}, Version{2, "", true}, Version{3, "b", false})
	expectAll(t, &Chain{})
	expectPut(t, &Chain{}, Version{1, "a", false}, api.OK)
}

// P18.1, rule 4: what a caller does to a list that was answered is seen in no
// chain, and in no other answer.
func TestAllSharesNothing(t *testing.T) {
	c := of(t, three()...)
	got, other := c.All(), c.All()
	_ = append(got[:1], Version{7, "spoilt", false})
	for i := range got {
		got[i] = Version{1, "spoilt", false}
	}
	_ = append(got, Version{10, "spoilt", false})
	expectAll(t, c, three()...)
	expectAt(t, c, Version{2, "a", false}, 2)
	if !slices.Equal(other, three()) {
		t.Errorf("another answer became %+v", other)
	}
	kept := c.All()
	expectPut(t, c, Version{11, "c", false}, api.OK)
	c.Compact(11)
	if !slices.Equal(kept, three()) {
		t.Errorf("an answer became %+v", kept)
	}
	_ = append(kept[:1], Version{12, "spoilt", false})
	expectAll(t, c, Version{11, "c", false})
}

// P18.2: Spare and Compact below the first one, at each one, between and
// above, the last one being Gone or not; example 1.
func TestCompact(t *testing.T) {
	kept := []Version{{2, "a", false}, {5, "b", false}, {9, "c", false}}
	for rev, want := range map[int64]int{math.MinInt64: 0, -1: 0, 0: 0, 1: 0, 2: 0, 3: 0, 4: 0, 5: 1, 6: 1, 8: 1, 9: 2, 10: 2, api.MaxRev: 2, math.MaxInt64: 2} {
		expectCompact(t, kept, rev, want)
		if rev >= 9 {
			want = 3
		}
		expectCompact(t, three(), rev, want)
	}
	// One alone.
	for rev, want := range map[int64]int{math.MinInt64: 0, 3: 0, 4: 1, 5: 1, math.MaxInt64: 1} {
		expectCompact(t, []Version{{4, "a", false}}, rev, 0)
		expectCompact(t, []Version{{4, "a", true}}, rev, want)
	}
	for _, rev := range []int64{math.MinInt64, 0, 1, math.MaxInt64} {
		expectCompact(t, nil, rev, 0)
	}
	// Up to the last revision.
	end := []Version{{api.MaxRev - 1, "a", false}, {api.MaxRev, "", true}}
	expectCompact(t, end, api.MaxRev-1, 0)
	expectCompact(t, end, api.MaxRev, 2)
}

// P18.2: one that is Gone in the middle goes where it is the last one that
// counts, and where the next one counts too; not above that.
func TestCompactOfGoneInTheMiddle(t *testing.T) {
	l := []Version{{2, "a", false}, {4, "", true}, {7, "b", false}, {8, "", true}, {9, "", true}, {12, "c", false}}
	for rev, want := range map[int64]int{1: 0, 2: 0, 3: 0, 4: 2, 5: 2, 6: 2, 7: 2, 8: 4, 9: 5, 10: 5, 11: 5, 12: 5, 13: 5} {
		c := expectCompact(t, l, rev, want)
		// What stays may be told of still, at the revisions above.
		expectAt(t, c, Version{12, "c", false}, 12, 13)
		expectNone(t, c, 8, 9, 10, 11)
	}
	l = []Version{{1, "", true}, {3, "a", false}}
	expectCompact(t, l, 0, 0)
	expectCompact(t, l, 1, 1)
	expectCompact(t, l, 2, 1)
	expectCompact(t, l, 3, 1)
}

// P18.3: what counts at the revision, and above, is as it was.
func TestCompactKeepsWhatCounts(t *testing.T) {
	c := expectCompact(t, three(), 6, 1)
	expectNone(t, c, 2, 3, 4, 9, 10)
	expectAt(t, c, Version{5, "b", false}, 5, 6, 7, 8)
	// Twice, lower and higher.
	if c.Compact(3) != 0 || c.Compact(5) != 0 || c.Compact(8) != 0 || c.Len() != 2 {
		t.Errorf("%+v", c.All())
	}
	if c.Compact(20) != 2 || c.Compact(20) != 0 {
		t.Errorf("%+v", c.All())
	}
	expectAll(t, c)
}

// P18.1, P18.2: behind a Compact that took all away any revision may be put,
// as there is no last one; behind another one, above the last one alone.
func TestPutBehindCompact(t *testing.T) {
	for _, rev := range []int64{1, 9, 10, api.MaxRev} {
		c := expectCompact(t, three(), 9, 3)
		expectPut(t, c, Version{0, "c", false}, api.ErrArg)
		expectPut(t, c, Version{rev, "c", false}, api.OK)
		expectAll(t, c, Version{rev, "c", false})
		expectNone(t, c, rev-1)
		expectAt(t, c, Version{rev, "c", false}, rev, rev+1)
		expectSpare(t, c, 0, rev-1, rev, math.MaxInt64)
	}
	c := expectCompact(t, three(), 8, 1)
	expectPut(t, c, Version{9, "c", false}, api.ErrState)
	expectPut(t, c, Version{10, "c", false}, api.OK)
	expectAll(t, c, Version{5, "b", false}, Version{9, "", true}, Version{10, "c", false})
	expectSpare(t, c, 2, 9, 10, 11)
}

// Of a nil chain: ErrNil, nothing, false, 0.
func TestNilChain(t *testing.T) {
	var c *Chain
	for range 2 {
		expectAll(t, c)
		for _, rev := range []int64{math.MinInt64, -1, 0, 1, 5, api.MaxRev, api.MaxRev + 1, math.MaxInt64} {
			expectPut(t, c, Version{rev, "a", false}, api.ErrNil)
			expectNone(t, c, rev)
			expectSpare(t, c, 0, rev)
			if n := c.Compact(rev); n != 0 {
				t.Errorf("Compact(%d) is %d", rev, n)
			}
		}
	}
}

// counts: which one of l counts at rev, by the chapter's words: the one that
// counts from there or below, and whose next one does not.
func counts(l []Version, rev int64) (Version, bool) {
	for i, v := range l {
		if v.Rev <= rev && (i+1 == len(l) || rev < l[i+1].Rev) {
			return v, true
		}
	}
	return Version{}, false
}

// stay: those of l that are not spare from rev on, by the chapter's words.
func stay(l []Version, rev int64) []Version {
	var kept []Version
	for i, v := range l {
		next := i+1 < len(l) && l[i+1].Rev <= rev
		if v.Rev > rev || !next && !v.Gone {
			kept = append(kept, v)
		}
	}
	return kept
}

// expectModel: c answers as the chapter's words say of l, at each revision up
// to top.
func expectModel(t *testing.T, c *Chain, l []Version, top int64) {
	t.Helper()
	expectAll(t, c, l...)
	for rev := int64(-1); rev <= top; rev++ {
		if v, ok := counts(l, rev); ok && !v.Gone {
			expectAt(t, c, v, rev)
		} else {
			expectNone(t, c, rev)
		}
		expectSpare(t, c, len(l)-len(stay(l, rev)), rev)
	}
	if t.Failed() {
		t.Fatalf("of %+v", l)
	}
}

// P18.1, P18.2, P18.3: chains by chance, step by step, against the chapter's
// words.
func TestChainsByChance(t *testing.T) {
	r := rand.New(rand.NewSource(18))
	went := 0
	for range 400 {
		c, top := New(), int64(1)
		var l []Version
		for i := range 60 {
			if r.Intn(4) == 0 {
				rev := r.Int63n(top+4) - 1
				kept := stay(l, rev)
				if n := c.Compact(rev); n != len(l)-len(kept) {
					t.Fatalf("Compact(%d) of %+v is %d", rev, l, n)
				}
				went += len(l) - len(kept)
				for at := rev; at < top+4; at++ {
					was, had := counts(l, at)
					is, ok := c.At(at)
					if ok != (had && !was.Gone) || ok && is != was {
						t.Fatalf("At(%d) of %+v behind Compact(%d) is %+v, %v", at, l, rev, is, ok)
					}
				}
				l = kept
			}
			v := Version{top + r.Int63n(5) - 1, strconv.Itoa(i), r.Intn(3) == 0}
			want := api.OK
			switch {
			case v.Rev < 1:
				want = api.ErrArg
			case len(l) > 0 && v.Rev <= l[len(l)-1].Rev:
				want = api.ErrState
			default:
				l = append(l, v)
				top = v.Rev
			}
			expectPut(t, c, v, want)
			expectModel(t, c, l, top+3)
		}
	}
	if went < 1000 {
		t.Errorf("%d versions went", went)
	}
}

// Rule 8 of the language: what was taken away is not kept.
func TestCompactLetsGo(t *testing.T) {
	const many = 1000
	c := New()
	for i := range int64(many) {
		expectPut(t, c, Version{i + 1, "v", false}, api.OK)
	}
	for rev := range int64(many + 1) {
		c.Compact(rev)
		for _, v := range c.versions[:c.taken] {
			if v != (Version{}) {
				t.Fatalf("%+v is kept at %d", v, rev)
			}
		}
		if len(c.versions) > 2*c.Len() {
			t.Fatalf("room of %d for %d versions", len(c.versions), c.Len())
		}
	}
	expectPut(t, c, Version{Rev: many + 1, Gone: true}, api.OK)
	if c.Compact(many+1) != 2 || c.versions != nil {
		t.Errorf("%+v are kept", c.versions)
	}
}

// P1: long chains are asked, and compacted one by one, soon.
func TestLongChains(t *testing.T) {
	const many = 1 << 18
	c := New()
	for i := range int64(many) {
		if e := c.Put(Version{2 * (i + 1), strconv.FormatInt(i, 10), false}); e != api.OK {
			t.Fatal(i, e)
		}
	}
	for i := range int64(many) {
		rev := 2*(i+1) + i%2
		if v, ok := c.At(rev); !ok || v.Val != strconv.FormatInt(i, 10) {
			t.Fatalf("At(%d) is %+v, %v", rev, v, ok)
		}
		if n := c.Spare(rev); n != min(int(i), 1) {
			t.Fatalf("Spare(%d) is %d", rev, n)
		}
		if n := c.Compact(rev); n != min(int(i), 1) {
			t.Fatalf("Compact(%d) is %d", rev, n)
		}
	}
	expectAll(t, c, Version{2 * many, strconv.Itoa(many - 1), false})
}

// P1: no call panics, whatever it is given.
func FuzzChain(f *testing.F) {
	f.Add(int64(2), int64(5), int64(9), int64(6), true)
	f.Add(int64(math.MinInt64), int64(1), int64(math.MaxInt64), int64(-1), false)
	f.Fuzz(func(t *testing.T, a, b, d, rev int64, gone bool) {
		c := New()
		var l []Version
		for _, at := range []int64{a, b, d} {
			v := Version{at, "v", gone}
			if e := c.Put(v); e == api.OK {
				l = append(l, v)
			}
			gone = !gone
		}
		expectModel(t, c, l, 4)
		want := stay(l, rev)
		expectSpare(t, c, len(l)-len(want), rev)
		if n := c.Compact(rev); n != len(l)-len(want) {
			t.Errorf("Compact(%d) of %+v is %d", rev, l, n)
		}
		expectModel(t, c, want, 4)
	})
}
