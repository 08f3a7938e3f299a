package mv

import (
	"fmt"
	"math"
	"math/rand"
	"slices"
	"strings"
	"testing"

	"larum/api"
)

// version is one of a key, by the chapter's words.
type version struct {
	rev  int64
	val  string
	gone bool
}

// model is a store by the chapter's words, without any shortcut.
type model struct {
	lim        Limits
	rev, floor int64
	versions   map[string][]version
}

// at: which version of a key counts at a revision, if that is a value.
func (m *model) at(key string, rev int64) (version, bool) {
	var v version
	for _, x := range m.versions[key] {
		if x.rev <= rev {
			v = x
		}
	}
	return v, v.rev > 0 && !v.gone
}

// items: all values at a revision, by their keys' bytes.
func (m *model) items(rev int64) []Item {
	var l []Item
	for key := range m.versions {
		if v, ok := m.at(key, rev); ok {
			l = append(l, Item{key, v.val, v.rev})
		}
	}
	slices.SortFunc(l, func(a, b Item) int { return strings.Compare(a.Key, b.Key) })
	return l
}

func (m *model) count() int {
	n := 0
	for _, l := range m.versions {
		n += len(l)
	}
	return n
}

// behind: the model with one revision more, whether it may be or not.
func (m *model) behind(l []Change) *model {
	to := &model{m.lim, m.rev + 1, m.floor, map[string][]version{}}
	for key, x := range m.versions {
		to.versions[key] = slices.Clone(x)
	}
	for _, c := range l {
		to.versions[c.Key] = append(to.versions[c.Key], version{to.rev, c.Val, c.Gone})
	}
	return to
}

// may: the error of changes.
func (m *model) may(l []Change) api.Errno {
	if len(l) == 0 {
		return api.ErrArg
	}
	for i, c := range l {
		if c.Key == "" || slices.ContainsFunc(l[:i], func(x Change) bool { return x.Key == c.Key }) {
			return api.ErrArg
		}
		if _, ok := m.at(c.Key, m.rev); c.Gone && !ok {
			return api.ErrArg
		}
	}
	to := m.behind(l)
	if len(to.items(to.rev)) > max(m.lim.Keys, 1) || to.count() > max(m.lim.Versions, 1) {
		return api.ErrFull
	}
	return api.OK
}

// compact: versions that are spare (18) go.
func (m *model) compact(rev int64) api.Errno {
	if rev < m.floor || rev > m.rev {
		return api.ErrArg
	}
	m.floor = rev
	for key, l := range m.versions {
		var stay []version
		for i, v := range l {
			next := i+1 < len(l) && l[i+1].rev <= rev
			if v.rev > rev || !next && !v.gone {
				stay = append(stay, v)
			}
		}
		m.versions[key] = stay
	}
	return api.OK
}

// asked: the error of asking at a revision.
func (m *model) asked(rev int64) api.Errno {
	switch {
	case rev < 0 || rev > m.rev:
		return api.ErrArg
	case rev < m.floor:
		return api.ErrGone
	}
	return api.OK
}

// keysOfChance are some that look alike.
var keysOfChance = []string{"a", "b", "a/", "a/x", "a/y", "a/xx", "\xFF", "ab"}

// expectModel: the store answers as the model at each revision.
func expectModel(t *testing.T, r *rand.Rand, s *Store, m *model) {
	t.Helper()
	expectStands(t, s, m.rev, m.floor, len(m.items(m.rev)), m.count())
	for rev := int64(-1); rev <= m.rev+1; rev++ {
		e := m.asked(rev)
		for _, key := range append(keysOfChance, "", "never") {
			v, ok := m.at(key, rev)
			switch {
			case e != api.OK:
				expectNoGet(t, s, e, key, rev)
			case !ok:
				expectNoGet(t, s, api.ErrNone, key, rev)
			default:
				expectGet(t, s, Item{key, v.val, v.rev}, rev)
			}
		}
		a := ask{"", "", math.MaxInt, rev}
		if e != api.OK {
			expectNoRange(t, s, a, e)
			continue
		}
		all := m.items(rev)
		expectPage(t, s, a, all)
		a = ask{[]string{"", "a", "a/", "a/x", "b", "c", "\xFF"}[r.Intn(7)], append(keysOfChance, "", "a/xa", "0")[r.Intn(11)], r.Intn(9) - 1, rev}
		expectPage(t, s, a, slices.DeleteFunc(all, func(x Item) bool {
			return !strings.HasPrefix(x.Key, a.prefix) || a.after != "" && x.Key <= a.after
		}))
	}
	if t.Failed() {
		t.Fatalf("of %+v", m)
	}
}

// expectPage: Range answers the first ones of all that it could.
func expectPage(t *testing.T, s *Store, a ask, all []Item) {
	t.Helper()
	want, more := all, false
	if n := max(a.n, 0); n < len(all) {
		want, more = all[:n], true
	}
	if got, is, e := a.of(s); !slices.Equal(got, want) || is != more || e != api.OK {
		t.Errorf("Range(%+v) is %+v, %v, %d, not %+v, %v", a, got, is, e, want, more)
	}
}

// changesByChance: some, of which one may be wrong.
func changesByChance(r *rand.Rand, step int) []Change {
	var l []Change
	for _, i := range r.Perm(len(keysOfChance))[:r.Intn(4)] {
		l = append(l, Change{keysOfChance[i], fmt.Sprint(step), r.Intn(3) == 0})
	}
	if r.Intn(20) == 0 {
		l = append(l, Change{"", "v", false})
	}
	if r.Intn(20) == 0 && len(l) > 0 {
		l = append(l, l[0])
	}
	return l
}

// P19.1, P19.2, P19.3: stores by chance, step by step, against the chapter's
// words.
func TestStoresByChance(t *testing.T) {
	r := rand.New(rand.NewSource(19))
	seen := map[api.Errno]int{}
	for range 300 {
		lim := Limits{r.Intn(8) - 1, r.Intn(30) - 1}
		s, m := New(lim), &model{lim: lim}
		for step := range 40 {
			if r.Intn(6) == 0 {
				rev := r.Int63n(m.rev+3) - 1
				expectCompact(t, s, rev, m.compact(rev))
			}
			l := changesByChance(r, step)
			e := m.may(l)
			seen[e]++
			if e != api.OK {
				expectRefused(t, s, e, l...)
			} else {
				m = m.behind(l)
				expectCommit(t, s, m.rev, l...)
			}
			expectModel(t, r, s, m)
		}
	}
	if seen[api.OK] < 500 || seen[api.ErrArg] < 500 || seen[api.ErrFull] < 500 {
		t.Errorf("too few of one kind: %v", seen)
	}
}

// P19.4: what was told at a revision is told again, whatever is committed and
// compacted, till the floor is above it.
func TestSnapshots(t *testing.T) {
	r := rand.New(rand.NewSource(194))
	for range 60 {
		s := New(Limits{6, 1000})
		var at [][]Item
		for step := range 60 {
			for int64(len(at)) <= s.Rev() {
				l, _, _ := s.Range("", "", 99, s.Rev())
				at = append(at, l)
			}
			if r.Intn(10) == 0 {
				expectCompact(t, s, s.Floor()+r.Int63n(s.Rev()-s.Floor()+1), api.OK)
			}
			for rev, want := range at {
				if int64(rev) < s.Floor() {
					expectNoRange(t, s, ask{"", "", 99, int64(rev)}, api.ErrGone)
					continue
				}
				expectPage(t, s, ask{"", "", 99, int64(rev)}, want)
				for _, x := range want {
					expectGet(t, s, x, int64(rev))
				}
			}
			s.Commit(changesByChance(r, step))
		}
		if s.Rev() < 10 || t.Failed() {
			t.Fatalf("at %d", s.Rev())
		}
	}
}

// P1: a store of many keys and versions is filled, paged and compacted soon.
func TestManyKeys(t *testing.T) {
	const many = 50000
	s := New(Limits{many, 2 * many})
	for i := range many {
		if _, e := s.Commit([]Change{set(fmt.Sprintf("%08d", i*7919%many), "v")}); e != api.OK {
			t.Fatal(i, e)
		}
	}
	expectRefused(t, s, api.ErrFull, set("one more", "v"))
	var l []Change
	for i := range many {
		l = append(l, set(fmt.Sprintf("%08d", i), "w"))
	}
	expectRefused(t, s, api.ErrArg, append(l[:many:many], l[0])...)
	expectCommit(t, s, many+1, l...)
	expectRefused(t, s, api.ErrFull, l[0])
	for _, rev := range []int64{many, many + 1} {
		n, after := 0, ""
		for more := true; more; n++ {
			var page []Item
			page, more, _ = s.Range("", after, 1, rev)
			if len(page) != 1 || page[0].Key != l[n].Key || page[0].Val != "vw"[rev-many:rev-many+1] {
				t.Fatalf("behind %q %+v", after, page)
			}
			after = page[0].Key
		}
		if n != many {
			t.Errorf("%d keys at %d", n, rev)
		}
	}
	expectCompact(t, s, many+1, api.OK)
	expectStands(t, s, many+1, many+1, many, many)
	for i := range l {
		l[i] = gone(l[i].Key)
	}
	expectCommit(t, s, many+2, l...)
	expectCompact(t, s, many+2, api.OK)
	expectStands(t, s, many+2, many+2, 0, 0)
}

// P1: no call panics, whatever it is given.
func FuzzStore(f *testing.F) {
	f.Add("a", "b", "a", "", 2, int64(1), 2, 4, true)
	f.Add("", "\xFF", "\x00", "a", math.MinInt, int64(math.MinInt64), math.MaxInt, -1, false)
	f.Add("a", "a", "", "", math.MaxInt, int64(math.MaxInt64), 0, math.MinInt, true)
	f.Fuzz(func(t *testing.T, a, b, prefix, after string, n int, rev int64, keys, versions int, goes bool) {
		lim := Limits{keys, versions}
		s, m := New(lim), &model{lim: lim}
		for _, l := range [][]Change{{set(a, b)}, {set(b, a), {a, b, goes}}, {gone(b)}, {set(a, ""), set(b, "")}} {
			if e := m.may(l); e != api.OK {
				expectRefused(t, s, e, l...)
				continue
			}
			m = m.behind(l)
			expectCommit(t, s, m.rev, l...)
		}
		for range 2 {
			expectStands(t, s, m.rev, m.floor, len(m.items(m.rev)), m.count())
			for _, at := range []int64{rev, m.floor, m.rev} {
				l, is, e := s.Range(prefix, after, n, at)
				if e != m.asked(at) || len(l) > max(n, 0) || e != api.OK && is {
					t.Errorf("Range at %d is %+v, %v, %d", at, l, is, e)
				}
				if _, e := s.Get(a, at); e != api.OK && e != api.ErrNone && e != m.asked(at) {
					t.Errorf("Get at %d is %d", at, e)
				}
			}
			expectCompact(t, s, rev, m.compact(rev))
			expectCompact(t, s, m.rev, m.compact(m.rev))
		}
	})
}
