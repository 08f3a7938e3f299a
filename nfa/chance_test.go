package nfa

import (
	"math/rand"
	"regexp"
	"strings"
	"testing"
	"unicode/utf8"

	"larum/api"
	"larum/regex"
)

// ends: where what n takes may end in text, by where it begins: as many places
// as text has runes, and one more. By the chapter's words, without a machine.
func ends(n regex.Node, text []rune, begins []bool) []bool {
	switch n.Kind {
	case regex.Rune:
		l := make([]bool, len(begins))
		for i, r := range text {
			l[i+1] = begins[i] && isOne(n, r)
		}
		return l
	case regex.Concat:
		for _, kid := range n.Kids {
			begins = ends(kid, text, begins)
		}
	case regex.Either:
		l := make([]bool, len(begins))
		for _, kid := range n.Kids {
			add(l, ends(kid, text, begins))
		}
		return l
	case regex.Repeat:
		return endsOfRepeat(n, text, begins)
	}
	return begins
}

func isOne(n regex.Node, r rune) bool {
	for _, s := range n.Spans {
		if s.Lo <= r && r <= s.Hi {
			return !n.Not
		}
	}
	return n.Not
}

// add puts places to others; true, if one is new.
func add(l, more []bool) bool {
	found := false
	for i, is := range more {
		found = found || is && !l[i]
		l[i] = l[i] || is
	}
	return found
}

func endsOfRepeat(n regex.Node, text []rune, begins []bool) []bool {
	for range n.Least {
		begins = ends(n.Kids[0], text, begins)
	}
	l := make([]bool, len(begins))
	add(l, begins)
	for i := n.Least; n.Most == -1 || i < n.Most; i++ {
		begins = ends(n.Kids[0], text, begins)
		if !add(l, begins) && n.Most == -1 {
			break
		}
	}
	return l
}

// takes: at which places of text (of its runes, and at its end) does n take
// what is ahead?
func takes(n regex.Node, text []rune) []bool {
	begins := make([]bool, len(text)+1)
	begins[0] = true
	return ends(n, text, begins)
}

// steps: how many states a machine is in, by the chapter's words: what is led
// to is looked for till there is no more.
func steps(l []regex.State, at int, text []rune) (n int, halts []bool) {
	in := make([]bool, len(l))
	in[at] = true
	for i := 0; ; i++ {
		for more := true; more; {
			more = false
			for j, s := range l {
				if in[j] && s.Kind == regex.Split && !(in[s.One] && in[s.Two]) {
					in[s.One], in[s.Two], more = true, true, true
				}
			}
		}
		halt := false
		for j, s := range l {
			if in[j] {
				n++
				halt = halt || s.Kind == regex.Halt
			}
		}
		halts = append(halts, halt)
		if i == len(text) {
			return n, halts
		}
		next := make([]bool, len(l))
		for j, s := range l {
			if in[j] && s.Kind == regex.Take && isOne(regex.Node{Not: s.Not, Spans: s.Spans}, text[i]) {
				next[s.One] = true
			}
		}
		in = next
	}
}

// valid: the runes that s begins with, the places ahead of them and behind the
// last one, and are they all of s?
func valid(s string) (l []rune, places []int, all bool) {
	at := 0
	for at < len(s) {
		r, size := utf8.DecodeRuneInString(s[at:])
		if r == utf8.RuneError && size == 1 {
			break
		}
		l, places = append(l, r), append(places, at)
		at += size
	}
	return l, append(places, at), at == len(s)
}

// expectHalts: m takes the runes of s as far as halts tells of, and is in so
// many states, if n is not below 0.
func expectHalts(t *testing.T, what string, m *Machine, s string, halts []bool, n int) {
	t.Helper()
	_, places, all := valid(s)
	most, found := 0, false
	for i, at := range places {
		if halts[i] {
			most, found = at, true
		}
	}
	if got := m.Match(s); got != (all && halts[len(halts)-1]) {
		t.Fatalf("Match(%q) of %s is %v", s, what, got)
	}
	if got, ok := m.Longest(s); got != most || ok != found {
		t.Fatalf("Longest(%q) of %s is %d, %v, not %d, %v", s, what, got, ok, most, found)
	}
	got := m.Steps(s)
	if !all {
		n = 0
	}
	if n >= 0 && got != n {
		t.Fatalf("Steps(%q) of %s is %d, not %d", s, what, got, n)
	}
	if got > m.Len()*(utf8.RuneCountInString(s)+1) {
		t.Fatalf("Steps(%q) of %s is %d, of %d states", s, what, got, m.Len())
	}
}

var letters = []string{"a", "a", "a", "b", "b", "c", "é", "€", "😀", "\n", "_", "0", "\uFFFD"}

func someText(r *rand.Rand) string {
	var s strings.Builder
	for range r.Intn(9) {
		s.WriteString(letters[r.Intn(len(letters))])
		if r.Intn(40) == 0 {
			s.WriteString(wrongTexts[r.Intn(len(wrongTexts))])
		}
	}
	return s.String()
}

// someExpression: one of which brackets are so deep at most.
func someExpression(r *rand.Rand, room int) string {
	atoms := []string{"a", "a", "b", "c", "é", ".", "[ab]", "[^a]", `\w`, `\d`, `\s`, "[a-é]", "[^b-€]", "😀", "()"}
	signs := []string{"", "", "", "*", "+", "?", "{2}", "{0}", "{1,3}", "{0,2}", "{2,}", "{0,}"}
	var s strings.Builder
	for i := range 1 + r.Intn(3) {
		if i > 0 {
			s.WriteString([]string{"", "|"}[r.Intn(2)])
		}
		if room > 0 && r.Intn(2) == 0 {
			s.WriteString("(" + someExpression(r, room-1) + ")")
		} else {
			s.WriteString(atoms[r.Intn(len(atoms))])
		}
		s.WriteString(signs[r.Intn(len(signs))])
	}
	return s.String()
}

// P16.2, P16.3: expressions by chance take just what they say, of texts by
// chance; and Steps against the chapter's count.
func TestExpressionsByChance(t *testing.T) {
	r := rand.New(rand.NewSource(16))
	taken := 0
	for range 8000 {
		x := someExpression(r, 3)
		n, e := regex.Parse(x)
		if e == api.ErrLong {
			continue
		}
		l, at, eCompile := regex.Compile(n)
		m, eOf := Of(x)
		if e != api.OK || eCompile != api.OK || eOf != api.OK {
			t.Fatalf("%q: %d, %d, %d", x, e, eCompile, eOf)
		}
		for range 12 {
			s := someText(r)
			runes, _, _ := valid(s)
			want, halts := steps(l, at, runes)
			says := takes(n, runes)
			for i := range says {
				if says[i] != halts[i] {
					t.Fatalf("%q: the machine and the expression part at %d of %q", x, i, s)
				}
			}
			expectHalts(t, x, m, s, says, want)
			if m.Match(s) {
				taken++
			}
		}
	}
	if taken < 10000 {
		t.Errorf("%d texts are taken", taken)
	}
}

// P16.3: expressions that Go's library reads alike take the same texts there.
func TestExpressionsOfTheLibrary(t *testing.T) {
	r := rand.New(rand.NewSource(161))
	for range 3000 {
		x := someExpression(r, 2)
		m, e := Of(x)
		if e != api.OK {
			continue
		}
		// \s has one rune more there.
		other, err := regexp.Compile(`(?s)\A(?:` + strings.ReplaceAll(x, `\s`, `[\t\n\r ]`) + `)\z`)
		if err != nil {
			continue
		}
		for range 10 {
			s := someText(r)
			if utf8.ValidString(s) && m.Match(s) != other.MatchString(s) {
				t.Fatalf("Match(%q) of %q is %v", s, x, !other.MatchString(s))
			}
		}
	}
}

// someStates: of a machine by hand, which may lead anywhere.
func someStates(r *rand.Rand) []regex.State {
	l := make([]regex.State, 1+r.Intn(9))
	for i := range l {
		l[i] = regex.State{Kind: []int{regex.Take, regex.Take, regex.Split, regex.Split, regex.Halt}[r.Intn(5)], Not: r.Intn(4) == 0, One: r.Intn(len(l)), Two: r.Intn(len(l))}
		for range r.Intn(3) {
			lo := []rune("abcé€\n0")[r.Intn(7)]
			l[i].Spans = append(l[i].Spans, regex.Span{Lo: lo, Hi: lo + rune(r.Intn(4)) - 1})
		}
	}
	return l
}

// P16.1, P16.2: machines by hand, by chance: New of numbers that may be wrong,
// and where they are, against the chapter's words.
func TestMachinesByChance(t *testing.T) {
	r := rand.New(rand.NewSource(162))
	for range 20000 {
		l := someStates(r)
		at := r.Intn(len(l))
		m := byHand(t, at, l...)
		for range 4 {
			s := someText(r)
			runes, _, _ := valid(s)
			n, halts := steps(l, at, runes)
			expectHalts(t, "one by hand", m, s, halts, n)
		}
		i, to := r.Intn(len(l)), []int{-1, len(l), len(l) + 1, -1 << 63}[r.Intn(4)]
		wrong := l[i].Kind != regex.Halt
		l[i].One = to
		if l[i].Kind == regex.Split && r.Intn(2) == 0 {
			l[i].One, l[i].Two = 0, to
		}
		if m, e := New(l, at); (e != api.OK) != wrong || (m == nil) != wrong || wrong && e != api.ErrArg {
			t.Fatalf("New(%+v) is %d", l, e)
		}
	}
}

// P1, P16.2: no expression and no text makes a machine panic, or answer
// against the chapter's words.
func FuzzMachine(f *testing.F) {
	f.Add("a(b|c)*", "abcb")
	f.Add(`(\d|[^x])+`, "é1\xFF")
	f.Add("(()|a*)*{", "aaa")
	f.Fuzz(func(t *testing.T, x, s string) {
		m, e := Of(x)
		n, eParse := regex.Parse(x)
		if e != eParse || (m == nil) != (e != api.OK) {
			t.Fatalf("Of(%q) is %d, not %d", x, e, eParse)
		}
		if e != api.OK || len(s) > 100 {
			return
		}
		runes, _, _ := valid(s)
		expectHalts(t, x, m, s, takes(n, runes), -1)
	})
}
