package group

import (
	"cmp"
	"fmt"
	"math/rand"
	"slices"
	"strings"
	"testing"

	"larum/alert"
	"larum/api"
	"larum/label"
	"larum/match"
	"larum/silence"
)

// pick: one of some, by chance.
func pick[T any](r *rand.Rand, l ...T) T { return l[r.Intn(len(l))] }

// textByChance: a list's text, mostly.
func textByChance(r *rand.Rand) string {
	if r.Intn(10) == 0 {
		return pick(r, "", "x", "{}", `{a="1"`, `{a=~"("}`, ` { b != "x" , } `)
	}
	var l []string
	for range r.Intn(3) + 1 {
		l = append(l, pick(r, "a", "b", "c")+pick(r, "=", "!=", "=~", "!~")+`"`+pick(r, "", "1", "2", "x", "1|x", ".*", ".")+`"`)
	}
	return "{" + strings.Join(l, ",") + "}"
}

// alertsByChance: of few labels, so that groups have several.
func alertsByChance(t *testing.T, r *rand.Rand) []alert.Alert {
	var l []alert.Alert
	for i := range r.Intn(12) {
		var pairs []string
		for _, name := range []string{"c", "a", "b"} {
			if r.Intn(3) > 0 {
				pairs = append(pairs, name, pick(r, "1", "2", "x", "é", `"`))
			}
		}
		l = append(l, alert.Alert{Labels: set(t, pairs...), Starts: int64(i)})
	}
	return l
}

func silencesByChance(r *rand.Rand) []silence.Silence {
	var l []silence.Silence
	for range r.Intn(6) {
		l = append(l, silence.Silence{ID: r.Int63n(9), Match: textByChance(r), State: pick(r, silence.Active, silence.Active, silence.Pending, silence.Expired, "")})
	}
	return l
}

// asked: the groups that Of must answer, as text, and those that fire, by the
// chapter's words.
func asked(names []string, alerts []alert.Alert, silences []silence.Silence, fits *match.List) (string, []string) {
	type one struct{ key, text string }
	var l []one
	var firing []string
	for _, a := range alerts {
		if !fits.Has(a.Labels) {
			continue
		}
		var pairs []label.Pair
		for _, p := range a.Labels.Pairs() {
			if slices.Contains(names, p.Name) {
				pairs = append(pairs, p)
			}
		}
		key, _ := label.Of(pairs...)
		x := one{key.String(), fmt.Sprint(" ", a.Starts)}
		held := false
		for _, s := range silences {
			if silence.Mutes(s, a.Labels) {
				x.text += fmt.Sprint("-", s.ID)
				held = true
			}
		}
		if l = append(l, x); !held {
			firing = append(firing, x.key)
		}
	}
	slices.SortStableFunc(l, func(a, b one) int { return cmp.Compare(a.key, b.key) })
	text, last := "", ";"
	for _, x := range l {
		if x.key != last {
			text += "\n" + x.key
		}
		text, last = text+x.text, x.key
	}
	slices.Sort(firing)
	return text, slices.Compact(firing)
}

// P24.1: by chance, against the chapter's words: what Mutes says of each silence
// and each alert.
func TestOfByChance(t *testing.T) {
	r := rand.New(rand.NewSource(241))
	groups, held, fired := 0, 0, 0
	for range 8000 {
		var names []string
		for range r.Intn(4) {
			names = append(names, pick(r, "a", "b", "c", "d"))
		}
		alerts, silences := alertsByChance(t, r), silencesByChance(r)
		var fits *match.List
		if r.Intn(2) == 0 {
			fits, _ = match.Parse(textByChance(r))
		}
		want, firing := asked(names, alerts, silences, fits)
		got := Of(names, alerts, silences, fits)
		text := ""
		for _, g := range got {
			groups++
			text += "\n" + g.Key.String()
			for _, m := range g.Members {
				text += fmt.Sprint(" ", m.Alert.Starts)
				for _, id := range m.By {
					held++
					text += fmt.Sprint("-", id)
				}
			}
		}
		if text != want {
			t.Fatalf("Of(%q, %v, %v, %s) is %s\nnot %s", names, alerts, silences, fits, text, want)
		}
		if is := Firing(got); !slices.Equal(is, firing) {
			t.Fatalf("Firing(%s) is %q, not %q", text, is, firing)
		}
		fired += len(firing)
	}
	if groups < 10000 || held < 5000 || fired < 5000 || groups-fired < 3000 {
		t.Errorf("too few: %d, %d, %d", groups, held, fired)
	}
}

// P24.2: each alert that fits is a Member of just one group, and two groups have
// two keys; each key is that of all its Members.
func TestGroupsApart(t *testing.T) {
	r := rand.New(rand.NewSource(242))
	for range 4000 {
		names := []string{pick(r, "a", "b", "d"), pick(r, "a", "c")}
		alerts := alertsByChance(t, r)
		fits, _ := match.Parse(textByChance(r))
		left := map[int64]int{}
		for _, a := range alerts {
			if fits.Has(a.Labels) {
				left[a.Starts]++
			}
		}
		var keys []label.Set
		for _, g := range Of(names, alerts, nil, fits) {
			if len(g.Members) == 0 {
				t.Errorf("%s has no Member", g.Key)
			}
			for _, m := range g.Members {
				left[m.Alert.Starts]--
				if !label.Same(m.Alert.Labels.Pick(names...), g.Key) {
					t.Errorf("%s is not of %s", m.Alert.Labels, g.Key)
				}
			}
			if slices.ContainsFunc(keys, func(k label.Set) bool { return label.Same(k, g.Key) }) {
				t.Errorf("%s stands twice", g.Key)
			}
			keys = append(keys, g.Key)
		}
		for i, n := range left {
			if n != 0 {
				t.Errorf("%s is %d times too few", alerts[i].Labels, n)
			}
		}
	}
}

// P24.1, P24.2: many alerts and silences, of which each one holds one back.
func TestMany(t *testing.T) {
	var l []alert.Alert
	var s []silence.Silence
	for i := range 3000 {
		l = append(l, alert.Alert{Labels: set(t, "a", fmt.Sprint(i%100), "b", fmt.Sprint(i))})
		if i%30 == 0 {
			s = append(s, hold(int64(i), fmt.Sprintf(`{b=~"%d"}`, i)))
		}
	}
	got := Of([]string{"a"}, l, s, nil)
	members, held := 0, 0
	for _, g := range got {
		members += len(g.Members)
		for _, m := range g.Members {
			held += len(m.By)
			if len(m.By) > 0 && m.Alert.Labels.Get("b") != fmt.Sprint(m.By[0]) {
				t.Errorf("%s is held back by %v", m.Alert.Labels, m.By)
			}
		}
	}
	if len(got) != 100 || members != 3000 || held != 100 || len(Firing(got)) != 100 {
		t.Errorf("%d groups, %d Members, %d held back, %d fire", len(got), members, held, len(Firing(got)))
	}
}

// P1, P24.1, P24.2: no call panics, whatever it is given; what holds back is what
// Mutes says.
func FuzzGroup(f *testing.F) {
	f.Add("a", "1", "b", "x", `{a="1"}`, silence.Active, int64(7))
	f.Add("a", "1", "a", "1", `{ a =~ "x" }`, "", int64(-1))
	f.Add("", "\xFF", "é", "", "{}", "\xFF", int64(0))
	f.Fuzz(func(t *testing.T, name, val, other, text, matchers, state string, id int64) {
		l, _ := label.Of(label.Pair{Name: name, Value: val})
		x, _ := label.Of(label.Pair{Name: name, Value: val}, label.Pair{Name: other, Value: text})
		fits, _ := match.Parse(matchers)
		silences := []silence.Silence{{ID: id, Match: matchers, State: state}, {Match: text, State: silence.Active}}
		alerts := []alert.Alert{{Labels: l}, {Labels: x, Starts: 1}, {Starts: 2}}
		got := Of([]string{other, name, text}, alerts, silences, fits)
		Firing(append(got, Group{}))
		members := 0
		for _, g := range got {
			members += len(g.Members)
			for _, m := range g.Members {
				if !fits.Has(m.Alert.Labels) {
					t.Errorf("%s does not fit", m.Alert.Labels)
				}
				var want []int64
				for _, s := range silences {
					if silence.Mutes(s, m.Alert.Labels) {
						want = append(want, s.ID)
					}
				}
				if !slices.Equal(m.By, want) || !slices.Equal(Muted(m.Alert.Labels, silences), want) {
					t.Errorf("%s is held back by %v, not %v", m.Alert.Labels, m.By, want)
				}
			}
		}
		if _, e := match.Parse(matchers); e != api.OK && members != 3 {
			t.Errorf("%d Members", members)
		}
	})
}
