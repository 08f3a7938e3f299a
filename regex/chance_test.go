package regex

import (
	"math/rand"
	"regexp"
	"strconv"
	"strings"
	"testing"
	"unicode/utf8"

	"larum/api"
)

// The chapter's words, as expressions of Go's library: what may stand behind
// a \, a rune for itself between [ and ], what may stand there, an atom
// without brackets, a sign, an expression of these without brackets.
const (
	escaped  = "\\\\[!-/:-@\\[-`{-~dws]"
	plain    = `[^\[\]\\^\-]`
	members  = escaped + "|" + plain + "-" + plain + "|" + plain
	atoms    = `\[\^?(?:` + members + `)+\]|` + escaped + `|\.|[^|*+?()\[\]{}.\\]`
	signs    = `[*+?]|\{[0-9]{1,2}(?:,(?:[0-9]{1,2})?)?\}`
	unnested = `(?:as?|\|)*`
)

var (
	memberAt  = regexp.MustCompile(members)
	atomAt    = regexp.MustCompile(`^(?:` + atoms + `)`)
	signAt    = regexp.MustCompile(`^(?:` + signs + `)`)
	numberAt  = regexp.MustCompile(`[0-9]+`)
	innermost = regexp.MustCompile(`\(` + unnested + `\)`)
	whole     = regexp.MustCompile(`^` + unnested + `$`)
)

// isExpression: by the chapter's words. Atoms become a, signs s, and then
// brackets with an expression in them a, from the innermost ones outward.
func isExpression(s string) bool {
	row, ok := rowOf(s)
	if !ok {
		return false
	}
	for range api.MaxDepth {
		row = innermost.ReplaceAllString(row, "a")
	}
	return whole.MatchString(row)
}

func rowOf(s string) (string, bool) {
	var row strings.Builder
	for s != "" {
		size := 1
		if atom := atomAt.FindString(s); atom != "" {
			size = len(atom)
			if !utf8.ValidString(atom) || atom[0] == '[' && falls(atom) {
				return "", false
			}
			row.WriteByte('a')
		} else if sign := signAt.FindString(s); sign != "" {
			size = len(sign)
			if !mayBe(sign) {
				return "", false
			}
			row.WriteByte('s')
		} else if strings.Contains("|()", s[:1]) {
			row.WriteString(s[:1])
		} else {
			return "", false
		}
		s = s[size:]
	}
	return row.String(), true
}

// falls: has a set a span whose first rune is above its second one?
func falls(set string) bool {
	for _, m := range memberAt.FindAllString(strings.TrimPrefix(set[1:len(set)-1], "^"), -1) {
		if r := []rune(m); len(r) == 3 && r[0] > r[2] {
			return true
		}
	}
	return false
}

// mayBe: are a sign's numbers small enough, and do they not fall?
func mayBe(sign string) bool {
	last := 0
	for _, digits := range numberAt.FindAllString(sign, -1) {
		n, _ := strconv.Atoi(digits)
		if n > api.MaxRepeat || n < last {
			return false
		}
		last = n
	}
	return true
}

// expectByWords: Parse of s against the chapter's words; true, if there is a
// node.
func expectByWords(t *testing.T, s string) bool {
	t.Helper()
	n, e := Parse(s)
	if is := isExpression(s); is != (e != api.ErrForm) {
		t.Fatalf("Parse(%q) is %d, but it is %v that it is an expression", s, e, is)
	}
	if e != api.OK {
		if e != api.ErrForm && e != api.ErrLong || !alike(n, none) {
			t.Fatalf("Parse(%q) is %+v, %d", s, n, e)
		}
		return false
	}
	l, at, e := Compile(n)
	if e != api.OK {
		t.Fatalf("Compile of %q is %d", s, e)
	}
	expectLedStates(t, n, l, at, Size(n))
	return true
}

// P15.1: texts by chance against the chapter's words.
func TestParseByChance(t *testing.T) {
	r := rand.New(rand.NewSource(151))
	parts := []string{"a", "b", "é", "😀", "|", "|", "(", "(", ")", ")", "()", "*", "+", "?", "{2}", "{1,3}", "{3,}", "{17}", "{2,1}", "{", "}", ",", "2", "[", "]", "[", "]", "[ab]", "[^a-c]", "[z-a]", "-", "-", "^", ".", "\\", "\\", "\\d", "\\w", "\\.", "\\]", "\xFF", "\xC3", "\x00", "\n", " "}
	right := 0
	for range 300000 {
		var s strings.Builder
		for range r.Intn(10) {
			s.WriteString(parts[r.Intn(len(parts))])
		}
		if expectByWords(t, s.String()) {
			right++
		}
	}
	if right < 30000 {
		t.Errorf("%d are right", right)
	}
}

// some: a node as Parse may answer it, of which brackets may be so deep.
func some(r *rand.Rand, room int) Node {
	kind := r.Intn(5)
	if room == 0 {
		kind = r.Intn(2)
	}
	switch kind {
	case Empty:
		return none
	case Rune:
		return someRune(r)
	case Repeat:
		least := r.Intn(3) * r.Intn(9)
		most := []int{-1, least, least + r.Intn(api.MaxRepeat-least+1), api.MaxRepeat, max(least, 1)}[r.Intn(5)]
		return repeat(least, most, some(r, room-1))
	}
	n := Node{Kind: kind}
	for range 2 + r.Intn(3) {
		n.Kids = append(n.Kids, some(r, room-1))
	}
	return n
}

func someRune(r *rand.Rand) Node {
	all := []rune("az09_-^]\\.(|é€😀\x00\n *")
	n := Node{Kind: Rune, Not: r.Intn(3) == 0}
	for range 1 + r.Intn(3) {
		switch r.Intn(6) {
		case 0:
			n.Spans = append(n.Spans, spans('à', []rune("àéü€")[r.Intn(4)])...)
		case 1:
			n.Spans = append(n.Spans, [][]Span{digit.Spans, word.Spans, space.Spans}[r.Intn(3)]...)
		default:
			c := all[r.Intn(len(all))]
			n.Spans = append(n.Spans, Span{c, c})
		}
	}
	if r.Intn(5) == 0 {
		return point
	}
	return n
}

// text: an expression of n, which is in no brackets, in a Concat, or in a
// Repeat.
func text(n Node, in int) string {
	s := ""
	switch n.Kind {
	case Empty:
		s = ""
	case Rune:
		return textOfRune(n)
	case Concat:
		for _, kid := range n.Kids {
			s += text(kid, Concat)
		}
	case Either:
		for i, kid := range n.Kids {
			if i > 0 {
				s += "|"
			}
			s += text(kid, Either)
		}
	case Repeat:
		s = text(n.Kids[0], Repeat) + sign(n)
		if in != Repeat {
			return s
		}
	}
	// An Either within one is told from the other by brackets alone.
	if in == Empty || in == Either && n.Kind != Either {
		return s
	}
	return "(" + s + ")"
}

func sign(n Node) string {
	least, most := strconv.Itoa(n.Least), strconv.Itoa(n.Most)
	switch {
	case n.Least == 0 && n.Most == -1:
		return "*"
	case n.Least == 1 && n.Most == -1:
		return "+"
	case n.Least == 0 && n.Most == 1:
		return "?"
	case n.Most == -1:
		return "{" + least + ",}"
	case n.Most == n.Least:
		return "{" + least + "}"
	}
	return "{" + least + "," + most + "}"
}

func textOfRune(n Node) string {
	if n.Not && len(n.Spans) == 0 {
		return "."
	}
	s := "["
	if n.Not {
		s = "[^"
	}
	for _, x := range n.Spans {
		lo := string(x.Lo)
		if strings.Contains(`[]\^-`, lo) {
			lo = `\` + lo
		}
		s += lo
		if x.Hi != x.Lo {
			s += "-" + string(x.Hi)
		}
	}
	return s + "]"
}

// P15.1, P15.2: nodes by chance, written and read again.
func TestNodesAsText(t *testing.T) {
	r := rand.New(rand.NewSource(152))
	long := 0
	for range 60000 {
		n := some(r, 1+r.Intn(5))
		s := text(n, Empty)
		if !isExpression(s) {
			t.Fatalf("%q of %+v is no expression", s, n)
		}
		if Size(n) > api.MaxState {
			expectNoNode(t, s, api.ErrLong)
			long++
			continue
		}
		expectNode(t, s, n)
		// A byte taken away, or another one put there.
		if s != "" {
			i := r.Intn(len(s))
			expectByWords(t, s[:i]+s[i+1:])
			expectByWords(t, s[:i]+string("|*+?()[]{}.\\^-,a1\x80"[r.Intn(18)])+s[i:])
		}
	}
	if long < 1000 {
		t.Errorf("%d are too long", long)
	}
}

// P1, P15.1: no text makes Parse panic, or answer against the chapter's words.
func FuzzParse(f *testing.F) {
	for _, s := range []string{"", "a(b|c)*[^x-z]{2,3}", `\d+\.\w?|[a\]-]`, "((a{16}){16}){2}", "[z-a]", "é|\xFF", "{1}", "a{1,}{2}"} {
		f.Add(s)
	}
	f.Fuzz(func(t *testing.T, s string) { expectByWords(t, s) })
}
