package match

import (
	"encoding/json"
	"math/rand"
	"regexp"
	"slices"
	"strings"
	"testing"
	"unicode/utf8"

	"larum/api"
	"larum/label"
	"larum/regex"
)

// oneText is a matcher's text, by the chapter's words: name, sign, a text in
// quotes, whose halves of runes stand in pairs.
const oneText = `[ \t]*([A-Za-z_][A-Za-z0-9_]*)[ \t]*(=~|!~|!=|=)[ \t]*` +
	`("(?:[^\x00-\x1F"\\]|\\["\\/bfnrt]|\\u(?:[0-9A-CE-Fa-ce-f][0-9A-Fa-f]{3}|[Dd][0-7][0-9A-Fa-f]{2}|[Dd][89ABab][0-9A-Fa-f]{2}\\u[Dd][C-Fc-f][0-9A-Fa-f]{2}))*")[ \t]*`

var (
	justOne   = regexp.MustCompile(`^` + oneText + `$`)
	oneOfMany = regexp.MustCompile(oneText)
	listText  = regexp.MustCompile(`^[ \t]*\{(?:[ \t]*|` + oneText + `(?:,` + oneText + `)*(?:,[ \t]*)?)\}[ \t]*$`)
)

// matcherOf: what the library makes of a matcher's text that was found.
func matcherOf(t *testing.T, found []string) Matcher {
	t.Helper()
	m := Matcher{Name: found[1], Kind: map[string]int{"=": Equal, "!=": NotEqual, "=~": Like, "!~": NotLike}[found[2]]}
	if err := json.Unmarshal([]byte(found[3]), &m.Value); err != nil {
		t.Fatal(err)
	}
	return m
}

// errorOf: Of's error, by the chapter's words.
func errorOf(l []Matcher) api.Errno {
	if len(l) > 32 {
		return api.ErrFull
	}
	for _, m := range l {
		if !label.Name(m.Name) || m.Kind < Equal || m.Kind > NotLike || !utf8.ValidString(m.Value) {
			return api.ErrForm
		}
		if m.Kind < Like {
			continue
		}
		if _, e := regex.Parse(m.Value); e != api.OK {
			return e
		}
	}
	return api.OK
}

// expectRead: One and Parse answer of s what the chapter's words ask for; is
// it a matcher's text, or a list's?
func expectRead(t *testing.T, s string) (one, many bool) {
	t.Helper()
	valid := utf8.ValidString(s)
	found := justOne.FindStringSubmatch(s)
	one = valid && found != nil
	m, want := Matcher{}, api.ErrForm
	if one {
		m, want = matcherOf(t, found), api.OK
	}
	if got, e := One(s); got != m || e != want {
		t.Fatalf("One(%q) is %+v, %d, not %+v, %d", s, got, e, m, want)
	}
	many = valid && listText.MatchString(s)
	want = api.ErrForm
	var l []Matcher
	if many {
		for _, found := range oneOfMany.FindAllStringSubmatch(s, -1) {
			l = append(l, matcherOf(t, found))
		}
		want = errorOf(l)
	}
	got, e := Parse(s)
	if e != want || (got == nil) != (e != api.OK) || e == api.OK && !slices.Equal(got.All(), l) {
		t.Fatalf("Parse(%q) is %s, %d, not %+v, %d", s, got, e, l, want)
	}
	return one, many
}

var (
	names       = []string{"a", "b", "_", "A", "a1", "ab", "zz"}
	expressions = []string{"", "a", "b", "a*", "a|b", ".", ".*", ".+", "[ab]+", "[^a]", "(ab)?", "é", "é|€", "a{2}", `\d`, `\w*`, "b?a"}
	values      = []string{"a", "b", "aa", "ab", "ba", "é", "€", "éa", "1", "_", "\n", `"`, ",", "}", "=", "~", `\`, "\x00", "😀"}
)

func pick(r *rand.Rand, l []string) string { return l[r.Intn(len(l))] }

// someMatchers: that are right, by chance.
func someMatchers(r *rand.Rand, most int) []Matcher {
	var l []Matcher
	for range r.Intn(most + 1) {
		m := Matcher{Name: pick(r, names), Kind: Equal + r.Intn(4), Value: pick(r, expressions)}
		if m.Kind < Like && r.Intn(2) == 0 {
			m.Value = pick(r, values) + pick(r, values)
		}
		l = append(l, m)
	}
	return l
}

// someText: a list, or a matcher, nearly as text.
func someText(r *rand.Rand) string {
	bits := []string{"a", "b", "_", "1", "=", "=", "~", "!", `"`, `"`, ",", "{", "}", " ", "\t", `\`, `\n`, `\u0000`, `\u0041`, `\ud83d\ude00`, `\ud83d`, "é", "\xFF", `b="1"`, `c=~"("`, "\n"}
	l, bare := someMatchers(r, 4), false
	if len(l) > 0 && r.Intn(2) == 0 {
		l, bare = l[:1], true
	}
	text := text(l)
	if bare {
		text = text[1 : len(text)-1]
	}
	for range r.Intn(4) {
		at := r.Intn(len(text))
		// What is put in may take the place of something.
		text = text[:at] + pick(r, bits) + text[min(at+r.Intn(2), len(text)):]
	}
	return text
}

// P17.2: One and Parse take just what the chapter says: texts by chance,
// nearly right.
func TestReadByChance(t *testing.T) {
	r := rand.New(rand.NewSource(172))
	ones, lists, none := 0, 0, 0
	for range 200000 {
		switch one, many := expectRead(t, someText(r)); {
		case one:
			ones++
		case many:
			lists++
		default:
			none++
		}
	}
	if min(ones, lists, none) < 10000 {
		t.Error(ones, lists, none)
	}
}

// P17.1, P17.3: String of lists by chance is one text, which Parse takes back;
// each matcher's text is One's.
func TestParseOfString(t *testing.T) {
	r := rand.New(rand.NewSource(173))
	for range 20000 {
		want := someMatchers(r, 34)
		l, e := Of(want...)
		if e != errorOf(want) {
			t.Fatalf("Of(%+v) is %d", want, e)
		}
		if e != api.OK {
			continue
		}
		got, e := Parse(l.String())
		if e != api.OK || !slices.Equal(got.All(), want) || got.String() != l.String() || got.Len() != len(want) {
			t.Fatalf("Parse(%q) is %s, %d", l.String(), got, e)
		}
		for _, m := range want {
			one := list(t, m).String()
			if x, e := One(one[1 : len(one)-1]); x != m || e != api.OK {
				t.Fatalf("One of %s is %+v, %d", one, x, e)
			}
		}
	}
}

// fits: by the chapter's words, with the library's expressions.
func fits(t *testing.T, m Matcher, value string) bool {
	t.Helper()
	if m.Kind < Like {
		return (m.Value == value) == (m.Kind == Equal)
	}
	x, err := regexp.Compile(`(?s)\A(?:` + m.Value + `)\z`)
	if err != nil {
		t.Fatal(err)
	}
	return x.MatchString(value) == (m.Kind == Like)
}

// P17.1: Has of lists by chance: do all of them fit, one by one?
func TestHasByChance(t *testing.T) {
	r := rand.New(rand.NewSource(171))
	seen := [2]int{}
	for range 20000 {
		l := list(t, someMatchers(r, 3)...)
		pairs := map[string]string{}
		var labels []string
		for range r.Intn(5) {
			pairs[pick(r, names)] = pick(r, values)
		}
		for _, name := range names {
			if v, ok := pairs[name]; ok {
				labels = append(labels, name, v)
			}
		}
		want, is := true, 1
		for _, m := range l.All() {
			if !fits(t, m, pairs[m.Name]) {
				want, is = false, 0
			}
		}
		expectHas(t, l, want, set(t, labels...))
		seen[is]++
	}
	if min(seen[0], seen[1]) < 2000 {
		t.Error(seen)
	}
}

// P1: no call panics, whatever it is given, nor answers against the chapter.
func FuzzRead(f *testing.F) {
	f.Add(` { a = "1" , b!~"x.*", } `, "a", 3, "(")
	f.Add(`a=~"\ud83d\ude00"`, "1", 0, "")
	f.Add("{,}", "_", -1, "\xFF")
	f.Add("a=\n\"1\"", "b", 4, "a{16}")
	f.Fuzz(func(t *testing.T, s, name string, kind int, value string) {
		expectRead(t, s)
		expectRead(t, "{"+s+"}")
		expectRead(t, name+"="+s)
		m := Matcher{name, kind, value}
		l, e := Of(m)
		if e != errorOf([]Matcher{m}) {
			t.Errorf("Of(%+v) is %s, %d", m, l, e)
		}
		if got, e := Parse(l.String()); e != api.OK || !slices.Equal(got.All(), l.All()) {
			t.Errorf("Parse(%q) is %s, %d", l.String(), got, e)
		}
		labels, _ := label.Of(label.Pair{Name: name, Value: strings.Repeat(value, 2)})
		if got := l.Has(labels); l.Len() == 0 && !got || kind == Equal && l.Len() == 1 && got != (labels.Get(name) == value) {
			t.Errorf("Has(%s) of %s is %v", labels, l, got)
		}
	})
}
