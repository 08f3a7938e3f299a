package note

import (
	"fmt"
	"math"
	"slices"
	"strings"
	"testing"

	"larum/api"
)

// told: the entries of a revision from a Seq on, one behind the other: of +a
// that a fires, of -a that it does not any more.
func told(seq, rev int64, l ...string) []Entry {
	var all []Entry
	for i, s := range l {
		all = append(all, Entry{seq + int64(i), rev, s[1:], s[0] == '+'})
	}
	return all
}

// join: entries of several revisions.
func join(l ...[]Entry) []Entry { return slices.Concat(l...) }

// expectStep: just these entries are told of these groups.
func expectStep(t *testing.T, o *Outbox, rev int64, groups []string, want ...Entry) {
	t.Helper()
	handed := slices.Clone(groups)
	if got := o.Step(rev, handed); !slices.Equal(got, want) {
		t.Errorf("Step(%d, %q) is %+v, not %+v", rev, groups, got, want)
	}
	if !slices.Equal(handed, groups) {
		t.Errorf("the groups %q became %q", groups, handed)
	}
}

// expectStands: which groups fire, up to where entries went, and which are kept.
func expectStands(t *testing.T, o *Outbox, firing []string, floor int64, kept ...Entry) {
	t.Helper()
	if got := o.Firing(); !slices.Equal(got, firing) {
		t.Errorf("Firing is %q, not %q", got, firing)
	}
	last := floor + int64(len(kept))
	if o.Floor() != floor || o.Last() != last || o.Len() != len(kept) {
		t.Errorf("the outbox stands at %d, %d, %d, not at %d, %d, %d", o.Floor(), o.Last(), o.Len(), floor, last, len(kept))
	}
	for i := range len(kept) + 1 {
		seq := floor + int64(i)
		if got, e := o.Since(seq); !slices.Equal(got, kept[i:]) || e != api.OK {
			t.Errorf("Since(%d) is %+v, %d, not %+v", seq, got, e, kept[i:])
		}
	}
	expectRefused(t, o, api.ErrGone, floor-1, -1, -2, math.MinInt64)
	expectRefused(t, o, api.ErrArg, last+1, last+2, api.MaxRev, math.MaxInt64)
}

func expectRefused(t *testing.T, o *Outbox, want api.Errno, seqs ...int64) {
	t.Helper()
	for _, seq := range seqs {
		if got, e := o.Since(seq); len(got) != 0 || e != want {
			t.Errorf("Since(%d) is %+v, %d, not %d", seq, got, e, want)
		}
	}
}

// names: one of each byte.
func names(s string) []string {
	if s == "" {
		return nil
	}
	return strings.Split(s, "")
}

// P25.1, P25.2: a new outbox.
func TestNew(t *testing.T) {
	for _, o := range []*Outbox{New(0), New(1), New(-1), New(2), New(math.MinInt), New(math.MaxInt), {}} {
		expectStands(t, o, nil, 0)
		expectStep(t, o, 5, nil)
		expectStep(t, o, 6, []string{})
		expectStands(t, o, nil, 0)
		expectStep(t, o, 7, names("a"), told(1, 7, "+a")...)
		expectStands(t, o, names("a"), 0, told(1, 7, "+a")...)
	}
}

// P25.1: example 1; no groups, the same ones again, one more, one less, one in
// another's place, all others, none.
func TestStep(t *testing.T) {
	o := New(100)
	var all []Entry
	for i, step := range []struct {
		groups string
		told   []string
	}{
		{"a", []string{"+a"}},
		{"b", []string{"-a", "+b"}},
		{"b", nil},
		{"b", nil},
		{"bc", []string{"+c"}},
		{"abc", []string{"+a"}},
		{"ac", []string{"-b"}},
		{"ad", []string{"-c", "+d"}},
		{"bcd", []string{"-a", "+b", "+c"}},
		{"aef", []string{"+a", "-b", "-c", "-d", "+e", "+f"}},
		{"", []string{"-a", "-e", "-f"}},
		{"", nil},
		{"abc", []string{"+a", "+b", "+c"}},
	} {
		rev := int64(3*i + 1)
		want := told(int64(len(all)+1), rev, step.told...)
		expectStep(t, o, rev, names(step.groups), want...)
		all = append(all, want...)
		expectStands(t, o, names(step.groups), 0, all...)
	}
}

// P25.1: a text that stands twice counts once; they stand in any order; entries
// come by their bytes.
func TestStepOfAnyOrder(t *testing.T) {
	for _, groups := range []string{"ab", "ba", "aab", "abb", "baa", "bab", "abab", "bbbbaaaa"} {
		o := New(9)
		expectStep(t, o, 1, names(groups), told(1, 1, "+a", "+b")...)
		expectStep(t, o, 2, names(groups))
		expectStands(t, o, names("ab"), 0, told(1, 1, "+a", "+b")...)
		expectStep(t, o, 3, names("cc"), told(3, 3, "-a", "-b", "+c")...)
	}
	rising := []string{"", "\x00", " ", "A", "B", "a", "a\x00", "a/", "aa", "b", "{a=\"1\"}", "{}", "é", "\xFF", "\xFF\xFE"}
	for i := range rising {
		o := New(99)
		// From another place on, every seventh one.
		var groups, want []string
		for k := range rising {
			groups = append(groups, rising[(i+7*k)%len(rising)])
			want = append(want, "+"+rising[k])
		}
		expectStep(t, o, 4, groups, told(1, 4, want...)...)
		expectStands(t, o, rising, 0, told(1, 4, want...)...)
		for k := range want {
			want[k] = "-" + rising[k]
		}
		expectStep(t, o, 5, nil, told(int64(len(rising)+1), 5, want...)...)
	}
}

// P25.1: the revision is told as it is given, be it any number.
func TestStepOfAnyRevision(t *testing.T) {
	o := New(100)
	var all []Entry
	for i, rev := range []int64{5, 5, 3, 0, -1, math.MinInt64, math.MaxInt64, api.MaxRev} {
		group := string(rune('a' + i))
		want := told(int64(len(all)+1), rev, "+"+group)
		if i > 0 {
			want = told(int64(len(all)+1), rev, "-"+string(rune('a'+i-1)), "+"+group)
		}
		expectStep(t, o, rev, names(group), want...)
		all = append(all, want...)
		expectStands(t, o, names(group), 0, all...)
	}
}

// P25.1, P25.2: the first entries go, till not more are kept than may be; what
// a Step tells is all of it.
func TestWhichEntriesGo(t *testing.T) {
	for _, most := range []int{math.MinInt, -1, 0, 1, 2, 3, 4, 5, 8} {
		o := New(most)
		var all []Entry
		for i, step := range []struct {
			groups string
			told   []string
		}{
			{"a", []string{"+a"}},
			{"ab", []string{"+b"}},
			{"ab", nil},
			{"cde", []string{"-a", "-b", "+c", "+d", "+e"}},
			{"cd", []string{"-e"}},
			{"bcd", []string{"+b"}},
			{"bc", []string{"-d"}},
			{"", []string{"-b", "-c"}},
			{"abcdefghi", []string{"+a", "+b", "+c", "+d", "+e", "+f", "+g", "+h", "+i"}},
		} {
			want := told(int64(len(all)+1), int64(i), step.told...)
			expectStep(t, o, int64(i), names(step.groups), want...)
			all = append(all, want...)
			went := max(len(all)-max(most, 1), 0)
			expectStands(t, o, names(step.groups), int64(went), all[went:]...)
		}
	}
}

// P25.1: all groups of one Step go in it, but for the last one.
func TestAllGoInOneStep(t *testing.T) {
	o := New(1)
	expectStep(t, o, 1, names("abc"), told(1, 1, "+a", "+b", "+c")...)
	expectStands(t, o, names("abc"), 2, told(3, 1, "+c")...)
	expectStep(t, o, 2, nil, told(4, 2, "-a", "-b", "-c")...)
	expectStands(t, o, nil, 5, told(6, 2, "-c")...)
	expectStep(t, o, 3, nil)
	expectStands(t, o, nil, 5, told(6, 2, "-c")...)
	o = New(3)
	expectStep(t, o, 1, names("abc"), told(1, 1, "+a", "+b", "+c")...)
	expectStands(t, o, names("abc"), 0, told(1, 1, "+a", "+b", "+c")...)
	expectStep(t, o, 2, nil, told(4, 2, "-a", "-b", "-c")...)
	expectStands(t, o, nil, 3, told(4, 2, "-a", "-b", "-c")...)
	expectStep(t, o, 3, names("d"), told(7, 3, "+d")...)
	expectStands(t, o, names("d"), 4, join(told(5, 2, "-b", "-c"), told(7, 3, "+d"))...)
}

// Rules 4 and 5: the outbox shares no list with its callers; what was told is
// not changed by what comes later.
func TestApart(t *testing.T) {
	o := New(4)
	groups := names("ab")
	first := o.Step(1, groups)
	groups[0], groups[1] = "spoilt", "spoilt"
	want := told(1, 1, "+a", "+b")
	expectStands(t, o, names("ab"), 0, want...)
	since, _ := o.Since(0)
	firing := o.Firing()
	second := o.Step(2, names("bc"))
	if !slices.Equal(first, want) || !slices.Equal(since, want) || !slices.Equal(firing, names("ab")) {
		t.Errorf("what was told became %+v, %+v, %q", first, since, firing)
	}
	all := join(want, told(3, 2, "-a", "+c"))
	for range 3 {
		expectStands(t, o, names("bc"), 0, all...)
		part, _ := o.Since(1)
		whole, _ := o.Since(0)
		for _, l := range [][]Entry{first, second, since, part, whole} {
			_ = append(l, Entry{9, 9, "spoilt", true})
			_ = append(l[:1], Entry{9, 9, "spoilt", true})
			l[0] = Entry{9, 9, "spoilt", true}
		}
		if whole[2] != all[2] || part[2] != all[3] {
			t.Errorf("another answer became %+v, %+v", whole, part)
		}
		firing := o.Firing()
		_ = append(firing[:1], "spoilt")
		firing[0] = "spoilt"
	}
	// In the room of an entry that went none comes to stand that is seen by who
	// was told of it.
	kept, _ := o.Since(0)
	expectStep(t, o, 3, names("xyz"), told(5, 3, "-b", "-c", "+x", "+y", "+z")...)
	if !slices.Equal(kept, all) {
		t.Errorf("what was told became %+v", kept)
	}
	expectStands(t, o, names("xyz"), 5, told(6, 3, "-c", "+x", "+y", "+z")...)
}

// Of a nil outbox: nothing, ErrNil, 0.
func TestNilOutbox(t *testing.T) {
	var o *Outbox
	for range 2 {
		for _, groups := range [][]string{nil, {}, {""}, {"a", "b"}} {
			expectStep(t, o, 1, groups)
		}
		if len(o.Firing()) != 0 || o.Last() != 0 || o.Floor() != 0 || o.Len() != 0 {
			t.Errorf("it stands at %q, %d, %d, %d", o.Firing(), o.Last(), o.Floor(), o.Len())
		}
		for _, seq := range []int64{math.MinInt64, -1, 0, 1, math.MaxInt64} {
			if l, e := o.Since(seq); len(l) != 0 || e != api.ErrNil {
				t.Errorf("Since(%d) is %+v, %d", seq, l, e)
			}
		}
	}
}

// P1: many groups and many steps are soon done; what went is let go of.
func TestMany(t *testing.T) {
	const many = 50000
	var groups []string
	for i := range many {
		groups = append(groups, fmt.Sprintf("%08d", i*7919%many))
	}
	o := New(10)
	if l := o.Step(1, groups); len(l) != many || l[77].Group != "00000077" || l[many-1].Seq != many {
		t.Errorf("%d are told, the last one is %+v", len(l), l[len(l)-1])
	}
	expectStands(t, o, slices.Sorted(slices.Values(groups)), many-10, told(many-9, 1,
		"+00049990", "+00049991", "+00049992", "+00049993", "+00049994", "+00049995", "+00049996", "+00049997", "+00049998", "+00049999")...)
	if l := o.Step(2, nil); len(l) != many {
		t.Errorf("%d are told", len(l))
	}
	for i := range 200000 {
		o.Step(int64(i), names(string(rune('a'+i%2))))
	}
	if o.Last() != 2*many+2*200000-1 || o.Len() != 10 || cap(o.entries) > 4*many {
		t.Errorf("it stands at %d, %d, in room for %d", o.Last(), o.Len(), cap(o.entries))
	}
}
