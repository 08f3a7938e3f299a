package page

import (
	"math/big"
	"math/rand"
	"regexp"
	"slices"
	"strings"
	"testing"

	"larum/api"
	"larum/core"
	"larum/match"
	"larum/pct"
)

var (
	cursorText = regexp.MustCompile(`^p([1-9][0-9]*)\.(0|[1-9][0-9]*)$`)
	namesText  = regexp.MustCompile(`^([A-Za-z_][A-Za-z0-9_]*(,[A-Za-z_][A-Za-z0-9_]*)*)?$`)
	digitsText = regexp.MustCompile(`^[0-9]+$`)
	numberText = regexp.MustCompile(`^(-?[1-9][0-9]*|-?0)$`)
)

// pick: one of some, by chance.
func pick[T any](r *rand.Rand, l ...T) T { return l[r.Intn(len(l))] }

// number: the number of digits; is it from least to most?
func number(s string, least, most int64) (int64, bool) {
	n, _ := new(big.Int).SetString(s, 10)
	if n.Cmp(big.NewInt(least)) < 0 || n.Cmp(big.NewInt(most)) > 0 {
		return 0, false
	}
	return n.Int64(), true
}

// cursorBy: the cursor as text, by the chapter's words.
func cursorBy(s string) (core.Cursor, bool) {
	l := cursorText.FindStringSubmatch(s)
	if l == nil {
		return core.Cursor{}, false
	}
	pin, ok := number(l[1], 1, 1<<31-1)
	at, too := number(l[2], 0, 1<<31-1)
	if !ok || !too {
		return core.Cursor{}, false
	}
	return core.Cursor{Pin: pin, At: int(at)}, true
}

// mixed: some of l, one behind the other.
func mixed(r *rand.Rand, most int, l ...string) string {
	var b strings.Builder
	for range r.Intn(most + 1) {
		b.WriteString(pick(r, l...))
	}
	return b.String()
}

// P27.1: texts by chance, against the chapter's words.
func TestReadByChance(t *testing.T) {
	r := rand.New(rand.NewSource(271))
	seen := map[bool]int{}
	for range 300000 {
		s := mixed(r, 8, "p", ".", "0", "1", "3", "9", "2147483647", "2147483648", "-", "+", " ")
		if r.Intn(2) == 0 {
			s = "p" + mixed(r, 3, "0", "1", "20", "2147483647", "2147483648") + "." + mixed(r, 3, "0", "1", "20", "2147483647", "-")
		}
		want, ok := cursorBy(s)
		got, e := Read(s)
		if ok != (e == api.OK) || !ok && e != api.ErrForm || got != want || ok && Print(got) != s {
			t.Fatalf("Read(%q) is %v, %d, not %v, %v", s, got, e, want, ok)
		}
		seen[ok]++
	}
	if seen[true] < 1000 || seen[false] < 1000 {
		t.Errorf("seen: %v", seen)
	}
}

// P27.1: names by chance, against the chapter's words.
func TestNamesByChance(t *testing.T) {
	r := rand.New(rand.NewSource(272))
	seen := map[bool]int{}
	for range 100000 {
		s := mixed(r, 7, "a", "b1", "_", ",", ",", "Z", "9", pick(r, " ", "-", "é", "\xFF", "a", ","))
		ok := namesText.MatchString(s)
		var want []string
		if ok && s != "" {
			want = strings.Split(s, ",")
		}
		if l, e := Names(s); ok != (e == api.OK) || !ok && e != api.ErrForm || !slices.Equal(l, want) {
			t.Fatalf("Names(%q) is %q, %d, not %q, %v", s, l, e, want, ok)
		}
		seen[ok]++
	}
	if seen[true] < 1000 || seen[false] < 1000 {
		t.Errorf("seen: %v", seen)
	}
}

// asks: what one pair says, by the chapter's words.
func asks(q *Query, p pct.Pair) api.Errno {
	ok := false
	switch p.Name {
	case "filter":
		l, e := match.Parse(p.Value)
		q.Filter = l
		return e
	case "by":
		if ok = namesText.MatchString(p.Value); p.Value != "" {
			q.By = strings.Split(p.Value, ",")
		}
	case "n":
		if ok = digitsText.MatchString(p.Value); ok {
			var n int64
			n, ok = number(p.Value, 1, 1000)
			q.N = int(n)
		}
	case "cursor":
		q.Cursor, ok = cursorBy(p.Value)
	case "rev":
		if ok = numberText.MatchString(p.Value); ok {
			q.Rev, ok = number(p.Value, 0, 1<<63-1)
		}
	case "wait":
		if ok = digitsText.MatchString(p.Value); ok {
			q.Wait, ok = number(p.Value, 0, 1<<31-1)
		}
	}
	if ok {
		return api.OK
	}
	return api.ErrForm
}

// queryBy: what pairs ask, by the chapter's words.
func queryBy(l []pct.Pair, may []string) (Query, api.Errno) {
	q := Query{N: 100}
	had := map[string]bool{}
	for _, p := range l {
		if had[p.Name] || !slices.Contains(may, p.Name) {
			return Query{}, api.ErrForm
		}
		had[p.Name] = true
		if e := asks(&q, p); e != api.OK {
			return Query{}, e
		}
	}
	return q, api.OK
}

// P27.2: queries by chance, against the chapter's words.
func TestParseByChance(t *testing.T) {
	r := rand.New(rand.NewSource(273))
	seen := map[api.Errno]int{}
	values := map[string][]string{
		"filter": {`{a="1"}`, `{}`, `{a!="1",b=~"x"}`, `{a=~"("}`, full, long, ""},
		"by":     {"", "a", "a,b", "a,", "9"},
		"n":      {"1", "1000", "007", "0", "1001", "-1", "2147483648"},
		"cursor": {"p1.0", "p2147483647.9", "p0.0", "p2147483648.0", "x"},
		"rev":    {"0", "-0", "9223372036854775807", "9223372036854775808", "-1", "01"},
		"wait":   {"0", "00", "2147483647", "2147483648", "-0"},
		"x":      {"", "1"},
	}
	names := append(slices.Clone(all), "x")
	for range 100000 {
		may := slices.Clone(names)
		r.Shuffle(len(may), func(i, j int) { may[i], may[j] = may[j], may[i] })
		may = may[r.Intn(3):]
		var l []pct.Pair
		for range r.Intn(5) {
			name := pick(r, all...)
			if r.Intn(30) == 0 {
				name = pick(r, "x", "", "N")
			}
			value := "1"
			if of := values[name]; of != nil {
				value = of[min(r.Intn(len(of)), r.Intn(len(of)))]
			}
			l = append(l, pct.Pair{Name: name, Value: value})
		}
		want, no := queryBy(l, may)
		got, e := Parse(l, may...)
		if e != no || !same(got, want) {
			t.Fatalf("Parse(%q, %q) is %+v, %d, not %+v, %d", l, may, got, e, want, no)
		}
		seen[e]++
	}
	for _, e := range []api.Errno{api.OK, api.ErrForm, api.ErrFull, api.ErrLong} {
		if seen[e] < 100 {
			t.Errorf("%d was seen %d times", e, seen[e])
		}
	}
}
