package note

import (
	"math/rand"
	"slices"
	"strings"
	"testing"

	"larum/api"
)

// model is an outbox by the chapter's words: all that was ever told.
type model struct {
	most   int
	told   []Entry
	firing []string // rising, each once
}

// step: each text that could be told of is asked, by its bytes.
func (m *model) step(rev int64, groups []string) []Entry {
	all := slices.Concat(m.firing, groups)
	slices.Sort(all)
	var now []string
	from := len(m.told)
	for _, g := range slices.Compact(all) {
		is, was := slices.Contains(groups, g), slices.Contains(m.firing, g)
		if is {
			now = append(now, g)
		}
		if is != was {
			m.told = append(m.told, Entry{int64(len(m.told) + 1), rev, g, is})
		}
	}
	m.firing = now
	return slices.Clone(m.told[from:])
}

// floor: how many entries went.
func (m *model) floor() int { return max(len(m.told)-max(m.most, 1), 0) }

// groupsByChance: some, of which one may stand twice.
func groupsByChance(r *rand.Rand) []string {
	var l []string
	for range r.Intn(6) {
		l = append(l, []string{"", "a", "aa", "b", "B", "{}", "\xFF", "{a=\"1\"}"}[r.Intn(8)])
	}
	return l
}

// P25.1, P25.2: outboxes by chance, step by step, against the chapter's words.
func TestOutboxesByChance(t *testing.T) {
	r := rand.New(rand.NewSource(25))
	seen := map[string]int{}
	for range 1000 {
		m := &model{most: r.Intn(12) - 1}
		o := New(m.most)
		for rev := range int64(20) {
			groups := m.firing
			if r.Intn(4) > 0 {
				groups = groupsByChance(r)
			}
			want := m.step(rev, groups)
			expectStep(t, o, rev, groups, want...)
			expectStands(t, o, m.firing, int64(m.floor()), m.told[m.floor():]...)
			switch n := len(want); {
			case n == 0:
				seen["none"]++
			case n > max(m.most, 1):
				seen["more than are kept"]++
			default:
				seen["some"]++
			}
		}
		if t.Failed() {
			t.Fatalf("of %+v", m)
		}
	}
	if len(seen) != 3 || seen["none"] < 1000 || seen["some"] < 1000 || seen["more than are kept"] < 1000 {
		t.Errorf("too few of one kind: %v", seen)
	}
}

// P25.3: of each group Firing is true and false in turn, true first; whoever
// takes what is told, from where it was told on, comes to know which fire.
func TestInTurn(t *testing.T) {
	r := rand.New(rand.NewSource(253))
	for range 200 {
		o := New(100)
		fires := map[string]bool{}
		var to int64
		for rev := range int64(60) {
			o.Step(rev, groupsByChance(r))
			if r.Intn(3) > 0 {
				continue
			}
			l, e := o.Since(to)
			if e != api.OK {
				t.Fatalf("Since(%d) is %d", to, e)
			}
			for _, x := range l {
				if x.Seq != to+1 || x.Rev > rev {
					t.Errorf("behind %d at %d comes %+v", to, rev, x)
				}
				if to = x.Seq; fires[x.Group] == x.Firing {
					t.Errorf("%q fires twice in turn: %+v", x.Group, x)
				}
				fires[x.Group] = x.Firing
			}
			var now []string
			for g, is := range fires {
				if is {
					now = append(now, g)
				}
			}
			slices.Sort(now)
			if !slices.Equal(now, o.Firing()) {
				t.Errorf("those that fire are %q, not %q", o.Firing(), now)
			}
		}
		if to < 100 || t.Failed() {
			t.Fatalf("told up to %d", to)
		}
	}
}

// P1: no call panics, whatever it is given.
func FuzzOutbox(f *testing.F) {
	f.Add("a b c", "b", "c c d", 2, int64(1), int64(3))
	f.Add("", " ", "\xFF", -1, int64(-1), int64(1<<62))
	f.Add("a", "a a", "", 1<<62, int64(0), int64(0))
	f.Fuzz(func(t *testing.T, a, b, c string, most int, rev, seq int64) {
		m := &model{most: most}
		o := New(most)
		for _, text := range []string{a, b, c, a} {
			groups := strings.Split(text, " ")
			expectStep(t, o, rev, groups, m.step(rev, groups)...)
			expectStands(t, o, m.firing, int64(m.floor()), m.told[m.floor():]...)
			l, e := o.Since(seq)
			if seq < o.Floor() && e != api.ErrGone || seq > o.Last() && e != api.ErrArg || e == api.OK && int64(len(l)) != o.Last()-seq {
				t.Errorf("Since(%d) is %+v, %d", seq, l, e)
			}
		}
	})
}
