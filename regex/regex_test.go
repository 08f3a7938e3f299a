package regex

import (
	"math"
	"slices"
	"strconv"
	"strings"
	"testing"

	"larum/api"
)

// spans: runes one behind the other, each two of them from one up to another.
func spans(l ...rune) []Span {
	var s []Span
	for i := 0; i < len(l); i += 2 {
		s = append(s, Span{l[i], l[i+1]})
	}
	return s
}

// of: a rune of these spans.
func of(l ...rune) Node { return Node{Kind: Rune, Spans: spans(l...)} }

// not: a rune of none of these spans.
func not(l ...rune) Node { return Node{Kind: Rune, Not: true, Spans: spans(l...)} }

// one: just this rune.
func one(r rune) Node { return of(r, r) }

func concat(l ...Node) Node { return Node{Kind: Concat, Kids: l} }

func either(l ...Node) Node { return Node{Kind: Either, Kids: l} }

func repeat(least, most int, l ...Node) Node {
	return Node{Kind: Repeat, Least: least, Most: most, Kids: l}
}

// Nodes that stand in many tests.
var (
	none    = Node{}
	a, b, c = one('a'), one('b'), one('c')
	point   = not()
	digit   = of('0', '9')
	word    = of('a', 'z', 'A', 'Z', '0', '9', '_', '_')
	space   = of(9, 9, 10, 10, 13, 13, 32, 32)
)

// around: n within so many nodes of one kid each.
func around(n Node, deep int) Node {
	for i := range deep {
		switch i % 3 {
		case 0:
			n = concat(n)
		case 1:
			n = either(n)
		case 2:
			n = repeat(1, 1, n)
		}
	}
	return n
}

// alike: are two nodes the same, all the way down?
func alike(a, b Node) bool {
	return a.Kind == b.Kind && a.Not == b.Not && a.Least == b.Least && a.Most == b.Most && slices.Equal(a.Spans, b.Spans) && slices.EqualFunc(a.Kids, b.Kids, alike)
}

func sameState(a, b State) bool {
	return a.Kind == b.Kind && a.Not == b.Not && a.One == b.One && a.Two == b.Two && slices.Equal(a.Spans, b.Spans)
}

// twin: n in new memory.
func twin(n Node) Node {
	n.Spans, n.Kids = slices.Clone(n.Spans), slices.Clone(n.Kids)
	for i := range n.Kids {
		n.Kids[i] = twin(n.Kids[i])
	}
	return n
}

// spoil writes into all lists of n.
func spoil(n Node) {
	for i := range n.Spans {
		n.Spans[i] = Span{-7, -7}
	}
	for i := range n.Kids {
		spoil(n.Kids[i])
		n.Kids[i] = Node{Kind: -7}
	}
}

func expectNode(t *testing.T, s string, want Node) {
	t.Helper()
	if n, e := Parse(s); !alike(n, want) || e != api.OK {
		t.Errorf("Parse(%q) is %+v, %d, not %+v", s, n, e, want)
	}
}

func expectNoNode(t *testing.T, s string, want api.Errno) {
	t.Helper()
	if n, e := Parse(s); !alike(n, none) || e != want {
		t.Errorf("Parse(%.200q) is %+v, %d, not %d alone", s, n, e, want)
	}
}

// expectForm: each of l is no expression, neither alone nor beside others.
func expectForm(t *testing.T, l ...string) {
	t.Helper()
	for _, s := range l {
		expectNoNode(t, s, api.ErrForm)
	}
}

// expectWrong: neither of l, nor what holds it, has a machine, with that error.
func expectWrong(t *testing.T, want api.Errno, l ...Node) {
	t.Helper()
	for _, n := range l {
		for i, x := range []Node{n, concat(n), either(a, n), either(n, a), repeat(0, -1, n), repeat(2, 3, n), around(n, 9), concat(a, around(n, 30), b)} {
			if l, at, e := Compile(x); l != nil || at != 0 || e != want {
				t.Errorf("%d: Compile(%+v) is %+v, %d, %d, not %d alone", i, n, l, at, e, want)
			}
		}
	}
}

// P15.1: the empty text, parts and pieces, one, none and some of them.
func TestParts(t *testing.T) {
	for s, want := range map[string]Node{
		"":        none,
		"|":       either(none, none),
		"||":      either(none, none, none),
		"a":       a,
		"ab":      concat(a, b),
		"abc":     concat(a, b, c),
		"a|b":     either(a, b),
		"a|b|c":   either(a, b, c),
		"|a":      either(none, a),
		"a|":      either(a, none),
		"a||b":    either(a, none, b),
		"|a|":     either(none, a, none),
		"||a":     either(none, none, a),
		"a||":     either(a, none, none),
		"ab|c":    either(concat(a, b), c),
		"a|bc":    either(a, concat(b, c)),
		"ab|bc|":  either(concat(a, b), concat(b, c), none),
		"a*|b":    either(repeat(0, -1, a), b),
		"a|b*":    either(a, repeat(0, -1, b)),
		"ab*":     concat(a, repeat(0, -1, b)),
		"a*b":     concat(repeat(0, -1, a), b),
		"a|b|b|a": either(a, b, b, a),
	} {
		expectNode(t, s, want)
	}
	n, e := Parse("a(b|c)*[^x-z]{2,3}")
	if want := concat(a, repeat(0, -1, either(b, c)), repeat(2, 3, not('x', 'z'))); !alike(n, want) || e != api.OK {
		t.Errorf("%+v, %d", n, e)
	}
}

// P15.1: ( and ), with something within and with nothing, closed and not.
func TestBrackets(t *testing.T) {
	for s, want := range map[string]Node{
		"()":            none,
		"(())":          none,
		"(a)":           a,
		"((a))":         a,
		"(ab)":          concat(a, b),
		"(a|b)":         either(a, b),
		"(|)":           either(none, none),
		"(a|)":          either(a, none),
		"()a":           concat(none, a),
		"a()":           concat(a, none),
		"()()":          concat(none, none),
		"()|()":         either(none, none),
		"(a)(b)":        concat(a, b),
		"(ab)c":         concat(concat(a, b), c),
		"a(bc)":         concat(a, concat(b, c)),
		"(a|b)|c":       either(either(a, b), c),
		"a|(b|c)":       either(a, either(b, c)),
		"(a|b)c":        concat(either(a, b), c),
		"a|(b)|c":       either(a, b, c),
		"()*":           repeat(0, -1, none),
		"()?":           repeat(0, 1, none),
		"(){3}":         repeat(3, 3, none),
		"(a)*":          repeat(0, -1, a),
		"(ab)+":         repeat(1, -1, concat(a, b)),
		"(a*)*":         repeat(0, -1, repeat(0, -1, a)),
		"(a|b){2,}":     repeat(2, -1, either(a, b)),
		"((a+)?|b){0}c": concat(repeat(0, 0, either(repeat(0, 1, repeat(1, -1, a)), b)), c),
	} {
		expectNode(t, s, want)
	}
	expectForm(t, "(", ")", ")(", "(a", "a)", "((a)", "(a))", "(()", "())", "a(", "a|(", "(|", ")|", "|)", "(a|b", "a|b)", "()(", "(*)", "(+a)", "(?)", "({2})", "(a**)", "(]", "(}", "([)]", "(a]", "[a)", "(\\)", "(a\\)")
}

// P15.1: brackets MaxDepth deep, one deeper, and far deeper.
func TestDepthOfBrackets(t *testing.T) {
	nested := func(deep int, within string) string {
		return strings.Repeat("(", deep) + within + strings.Repeat(")", deep)
	}
	for deep := range api.MaxDepth + 1 {
		expectNode(t, nested(deep, "a"), a)
		expectNode(t, nested(deep, ""), none)
		// Only what stands in one another is deep; [ and ] are not counted.
		expectNode(t, nested(deep, "[ab]"), of('a', 'a', 'b', 'b'))
		expectNode(t, nested(deep, "a")+nested(deep, "b"), concat(a, b))
		expectNode(t, nested(deep, "a")+"|"+nested(deep, "b"), either(a, b))
	}
	for _, deep := range []int{api.MaxDepth + 1, api.MaxDepth + 2, 100, 1 << 16, 1 << 20} {
		expectForm(t, nested(deep, "a"), nested(deep, ""), strings.Repeat("(", deep), "a|"+nested(deep, "a"), nested(deep, "a")+"*", nested(3, "a"+nested(deep-3, "b")+"c"))
	}
	n, e := Parse(strings.Repeat("(a|b(c", api.MaxDepth/2) + strings.Repeat(")*)+", api.MaxDepth/2))
	if e != api.OK || Size(n) != api.MaxDepth/2*(3+1+1+1) {
		t.Errorf("%+v, %d", n, e)
	}
	n, e = Parse(strings.Repeat("(a|", api.MaxDepth) + "b" + strings.Repeat(")", api.MaxDepth))
	if e != api.OK || Size(n) != 2*api.MaxDepth+1 {
		t.Errorf("%+v, %d", n, e)
	}
	// As many as there may be, one behind the other.
	if n, e := Parse(strings.Repeat("()", 10000)); e != api.OK || len(n.Kids) != 10000 {
		t.Errorf("%d kids, %d", len(n.Kids), e)
	}
}

// P15.1: each sign behind an atom, behind nothing, behind another sign.
func TestSigns(t *testing.T) {
	signs := map[string]Node{
		"*": repeat(0, -1), "+": repeat(1, -1), "?": repeat(0, 1), "{2}": repeat(2, 2), "{2,}": repeat(2, -1), "{2,3}": repeat(2, 3),
	}
	atoms := map[string]Node{
		"a": a, ".": point, `\d`: digit, `\*`: one('*'), "[a-c]": of('a', 'c'), "[^b]": not('b', 'b'), "(a)": a, "(a|b)": either(a, b), "(ab)": concat(a, b), "()": none, "é": one('é'), ",": one(','), "-": one('-'), "^": one('^'),
	}
	for sign, want := range signs {
		for atom, kid := range atoms {
			want.Kids = []Node{kid}
			expectNode(t, atom+sign, want)
			expectNode(t, "a"+atom+sign+"b", concat(a, want, b))
			expectNode(t, "("+atom+sign+")", want)
			expectNode(t, "b|"+atom+sign+"|", either(b, want, none))
			// With brackets between, behind another one.
			expectNode(t, "("+atom+sign+")"+sign, Node{Kind: Repeat, Least: want.Least, Most: want.Most, Kids: []Node{want}})
			for second := range signs {
				expectForm(t, atom+sign+second, atom+sign+second+"b")
			}
		}
		expectForm(t, sign, "|"+sign, sign+"a", "a|"+sign, "("+sign+")", "(a|"+sign+")")
	}
}

// P15.1: what may stand between { and }.
func TestTimes(t *testing.T) {
	for s, want := range map[string]Node{
		"{0}": repeat(0, 0), "{1}": repeat(1, 1), "{9}": repeat(9, 9), "{10}": repeat(10, 10), "{16}": repeat(16, 16), "{00}": repeat(0, 0), "{07}": repeat(7, 7),
		"{0,}": repeat(0, -1), "{1,}": repeat(1, -1), "{16,}": repeat(16, -1), "{01,}": repeat(1, -1),
		"{0,0}": repeat(0, 0), "{0,1}": repeat(0, 1), "{1,1}": repeat(1, 1), "{0,16}": repeat(0, 16), "{16,16}": repeat(16, 16), "{15,16}": repeat(15, 16), "{9,10}": repeat(9, 10), "{02,3}": repeat(2, 3), "{2,03}": repeat(2, 3), "{00,00}": repeat(0, 0),
	} {
		want.Kids = []Node{a}
		expectNode(t, "a"+s, want)
	}
	for _, s := range []string{
		"{", "}", "{}", "{,}", "{,1}", "{,16}", "{1", "{12", "{1,", "{1,2", "{16,16", "1}", "{1}}", "{{1}}", "{{1}", "{1}{1}", "{1},}*}",
		"{17}", "{99}", "{20,}", "{17,}", "{0,17}", "{17,17}", "{17,18}", "{1,99}",
		"{2,1}", "{16,15}", "{10,9}", "{1,0}", "{16,0}", "{1,00}",
		"{000}", "{001}", "{016}", "{100}", "{000,}", "{001,2}", "{1,002}", "{1,016}", "{16,016}", "{0000000000000000001}", "{99999999999999999999}", "{1,99999999999999999999}", "{4294967297}",
		"{-1}", "{+1}", "{1,-1}", "{-1,}", "{ 1}", "{1 }", "{1, 2}", "{1 ,2}", "{1,2,}", "{1,2,3}", "{1,,2}", "{,,}", "{a}", "{1a}", "{a1}", "{1,a}", "{1.}", "{0x1}", "{٣}", "{1;2}", "{1-2}", "{\\d}", "{(1)}", "{1|2}", "{1,\x00}", "{\x001}", "{é}", "{1\xFF}", "{\xFF}",
	} {
		expectForm(t, "a"+s, "(a"+s+")", s, "a|"+s, "(a)"+s, "[a]"+s)
	}
	// A } further behind, of another sign, ends none that has no end itself.
	expectForm(t, "a{1b{2}", "a{b{2}", "a{,b}", "a{1,b{2,3}")
	expectNode(t, "a{1}b{2}", concat(repeat(1, 1, a), repeat(2, 2, b)))
	for n := range 130 {
		for _, m := range []int{n - 1, n, n + 1, 16, 17} {
			s := "a{" + strconv.Itoa(n) + "," + strconv.Itoa(m) + "}"
			if n <= m && m <= api.MaxRepeat {
				expectNode(t, s, repeat(n, m, a))
			} else {
				expectForm(t, s)
			}
		}
	}
}

// isLetterOrDigit: of ASCII, as the chapter names them.
func isLetterOrDigit(r rune) bool {
	return 'a' <= r && r <= 'z' || 'A' <= r && r <= 'Z' || '0' <= r && r <= '9'
}

// P15.1: each byte alone, and behind a \, outside [ and ] and within.
func TestEveryByte(t *testing.T) {
	classes := map[rune]Node{'d': digit, 'w': word, 's': space}
	for r := rune(0); r < 256; r++ {
		s := string([]byte{byte(r)})
		class, isClass := classes[r]
		switch {
		case s == "|":
			expectNode(t, s, either(none, none))
		case s == ".":
			expectNode(t, s, point)
		case r >= 0x80, strings.Contains(`*+?()[]{}\`, s):
			expectForm(t, s, "|"+s, s+"a")
		default:
			expectNode(t, s, one(r))
			expectNode(t, s+"|"+s+"*"+s, either(one(r), concat(repeat(0, -1, one(r)), one(r))))
		}
		switch {
		case isClass:
			expectNode(t, `\`+s, class)
			expectNode(t, `[\`+s+`]`, class)
			expectNode(t, `[^\`+s+`]`, Node{Kind: Rune, Not: true, Spans: class.Spans})
			expectNode(t, `[\`+s+`\`+s+`x]`, Node{Kind: Rune, Spans: slices.Concat(class.Spans, class.Spans, spans('x', 'x'))})
		case 0x21 <= r && r <= 0x7E && !isLetterOrDigit(r):
			expectNode(t, `\`+s, one(r))
			expectNode(t, `a\`+s+`?b`, concat(a, repeat(0, 1, one(r)), b))
			expectNode(t, `[\`+s+`]`, one(r))
			expectNode(t, `[^x\`+s+`\`+s+`y]`, not('x', 'x', r, r, r, r, 'y', 'y'))
		default:
			expectForm(t, `\`+s, `a\`+s, `\`+s+`b`, `(\`+s+`)`, `[\`+s+`]`, `[a\`+s+`]`, `[^\`+s+`b]`)
		}
	}
	expectForm(t, `\`, `a\`, `\\\`, `(\`, `[\`, `[a\`, `[a-\`, `|\`, `\é`, `[\é]`, `\`+"\u007f", `\`+"\u00a0")
	expectNode(t, `\\`, one('\\'))
	expectNode(t, `\\\\`, concat(one('\\'), one('\\')))
	expectNode(t, `\.\d\.`, concat(one('.'), digit, one('.')))
}

// P15.1: what stands between [ and ], in its order.
func TestSets(t *testing.T) {
	for s, want := range map[string]Node{
		"[a]":               a,
		"[ab]":              of('a', 'a', 'b', 'b'),
		"[ba]":              of('b', 'b', 'a', 'a'),
		"[aa]":              of('a', 'a', 'a', 'a'),
		"[a-c]":             of('a', 'c'),
		"[a-a]":             of('a', 'a'),
		"[a-cx]":            of('a', 'c', 'x', 'x'),
		"[xa-c]":            of('x', 'x', 'a', 'c'),
		"[a-cc-e]":          of('a', 'c', 'c', 'e'),
		"[x-za-c]":          of('x', 'z', 'a', 'c'),
		"[a-bc-d]":          of('a', 'b', 'c', 'd'),
		"[^a]":              not('a', 'a'),
		"[^a-c]":            not('a', 'c'),
		"[^ab-c]":           not('a', 'a', 'b', 'c'),
		`[\^]`:              one('^'),
		`[a\^]`:             of('a', 'a', '^', '^'),
		`[^\^]`:             not('^', '^'),
		`[\-]`:              one('-'),
		`[a\-z]`:            of('a', 'a', '-', '-', 'z', 'z'),
		`[\]]`:              one(']'),
		`[\[\]]`:            of('[', '[', ']', ']'),
		`[\\]`:              one('\\'),
		`[\d]`:              digit,
		`[a\dz]`:            of('a', 'a', '0', '9', 'z', 'z'),
		`[^\s]`:             Node{Kind: Rune, Not: true, Spans: space.Spans},
		`[\d\s]`:            of('0', '9', 9, 9, 10, 10, 13, 13, 32, 32),
		`[\w]`:              word,
		"[|*+?(){}.]":       of('|', '|', '*', '*', '+', '+', '?', '?', '(', '(', ')', ')', '{', '{', '}', '}', '.', '.'),
		"[(-)]":             of('(', ')'),
		"[*-.]":             of('*', '.'),
		"[,]":               one(','),
		"[$]":               one('$'),
		"[\x00-\x1f]":       of(0, 0x1F),
		"[ ]":               one(' '),
		"[\n]":              one('\n'),
		"[é]":               one('é'),
		"[à-é]":             of('à', 'é'),
		"[a-é]":             of('a', 'é'),
		"[é€😀]":             of('é', 'é', '€', '€', '😀', '😀'),
		"[\x00-\U0010FFFF]": of(0, 0x10FFFF),
		"[a][b]":            concat(a, b),
		"[a]b":              concat(a, b),
		"[a]|[^b]":          either(a, not('b', 'b')),
	} {
		expectNode(t, s, want)
	}
	expectForm(t,
		"[", "]", "[]", "[^]", "[^", "[a", "[ab", "[a-", "[a-b", "[^a", "[]]", "[[]", "[[a]", "[a[]", "[a[b]", "[]a]", "[^]a]", "a]", "[a]]", "[a]b]",
		"[z-a]", "[b-a]", "[é-a]", "[a-cz-x]", "[^z-a]", "[1-0]",
		"[-]", "[-a]", "[a-]", "[^-]", "[^-a]", "[^a-]", "[--]", "[---]", "[a--]", "[--a]", "[a-b-]", "[a-b-c]", "[a-b-c-d]", "[-a-b]", "[ab-]", "[a--b]",
		"[^^]", "[a^]", "[a^b]", "[^a^]", "[^^a]", "[a-^]", "[^-a]", "[^-^]",
		`[a-\d]`, `[\d-a]`, `[\d-z]`, `[a-\]]`, `[a-\z]`, `[\--a]`, `[\a-b]`, `[!-\~]`, `[\!-~]`, `[\d-\d]`, `[a-\-]`, `[\w-]`, `[-\w]`, `[\]`, `[\]]]`, `[a\`, `[\\\]`,
		"[a-[]", "[a-]]", "[[-a]", "[\xFF]", "[a\xFF]", "[a-\xFF]", "[\xFF-a]", "[^\xFF]", "[\xC3]", "[\xC3-\xA9]", "[\xC3", "[a-\xC3",
	)
}

// P15.1: runes of one to four bytes, and bytes that are none.
func TestRunes(t *testing.T) {
	for _, r := range []rune{0, 1, 'a', 0x7F, 0x80, 'é', 0x7FF, 0x800, '€', 0xD7FF, 0xE000, 0xFFFD, 0xFFFF, 0x10000, '😀', 0x10FFFF} {
		s := string(r)
		expectNode(t, s, one(r))
		expectNode(t, s+s, concat(one(r), one(r)))
		expectNode(t, "("+s+"){2}", repeat(2, 2, one(r)))
		expectNode(t, s+"+|"+s+"?", either(repeat(1, -1, one(r)), repeat(0, 1, one(r))))
		expectNode(t, "["+s+"]", one(r))
		expectNode(t, "[^"+s+"-"+s+s+"]", not(r, r, r, r))
	}
	for _, bad := range []string{"\x80", "\xBF", "\xC3", "\xC3(", "\xC0\x80", "\xE2\x82", "\xE2\x82|", "\xED\xA0\x80", "\xED\xBF\xBF", "\xF0\x9F\x98", "\xF4\x90\x80\x80", "\xF8", "\xFF"} {
		for _, s := range []string{"a", "é", "(a)", "a|", "a*", `\d`, "[a]", "a{2}"} {
			expectForm(t, bad, s+bad, bad+s, s+bad+s, "("+s+bad+")", "["+bad+"]", `\`+bad, "a{"+bad+"}")
		}
	}
}

// P15.1: texts that make just MaxState states, and one more.
func TestMaxState(t *testing.T) {
	for _, s := range []string{
		strings.Repeat("a", 400), "(((a{10}){10}){4})", strings.Repeat("a|", 200) + "()", strings.Repeat("a*", 200), "(a{0,10}){16}(b{10}){8}", "((ab?){16}){8}" + strings.Repeat("c", 16), "(ab+){16}(((abc){16}){7}){1}" + strings.Repeat("a", 16),
	} {
		n, e := Parse(s)
		if e != api.OK || Size(n) != api.MaxState {
			t.Errorf("%q: %d states, %d", s, Size(n), e)
			continue
		}
		if l, _, e := Compile(n); len(l) != api.MaxState+1 || e != api.OK {
			t.Errorf("%q: %d states, %d", s, len(l), e)
		}
		expectNoNode(t, s+"a", api.ErrLong)
		expectNoNode(t, s+"()*", api.ErrLong)
		expectNoNode(t, s+"|", api.ErrLong)
		expectNoNode(t, "("+s+"){2}", api.ErrLong)
		// What is no expression is told first.
		expectForm(t, s+"a)", s+"a\xFF", "(a"+s, s+"a**", s+"a[")
		if n, e := Parse(s + "()(a{0}){0,0}(" + s + "){0}"); e != api.OK || Size(n) != api.MaxState {
			t.Errorf("%q: %d states, %d", s, Size(n), e)
		}
	}
	expectNoNode(t, "((a{16}){16}){2}", api.ErrLong)
	expectNoNode(t, strings.Repeat("(", 16)+"a"+strings.Repeat("{16})", 16), api.ErrLong)
	expectNoNode(t, strings.Repeat("a", 1<<20), api.ErrLong)
	expectNoNode(t, strings.Repeat("|", 401), api.ErrLong)
	expectNode(t, strings.Repeat("|", 400), Node{Kind: Either, Kids: make([]Node, 401)})
}

// P15.1: In of no spans, of some, of one that falls, at both ends.
func TestIn(t *testing.T) {
	for _, k := range []struct {
		r    rune
		l    []Span
		want bool
	}{
		{'a', nil, false}, {0, nil, false}, {-1, nil, false}, {'a', []Span{}, false},
		{'a', spans('a', 'c'), true}, {'b', spans('a', 'c'), true}, {'c', spans('a', 'c'), true}, {'`', spans('a', 'c'), false}, {'d', spans('a', 'c'), false},
		{'a', spans('a', 'a'), true}, {'b', spans('a', 'a'), false},
		{'b', spans('c', 'a'), false}, {'a', spans('c', 'a'), false}, {'c', spans('c', 'a'), false},
		{'b', spans('c', 'a', 'b', 'b'), true}, {'b', spans('b', 'b', 'c', 'a'), true},
		{'x', spans('a', 'c', 'x', 'z'), true}, {'d', spans('a', 'c', 'x', 'z'), false}, {'c', spans('a', 'c', 'x', 'z'), true},
		{0x10FFFF, spans(0, 0x10FFFF), true}, {0x110000, spans(0, 0x10FFFF), false}, {-1, spans(0, 0x10FFFF), false}, {0, spans(0, 0x10FFFF), true},
		{-5, spans(-9, -1), true}, {math.MaxInt32, spans(math.MinInt32, math.MaxInt32), true}, {math.MinInt32, spans(math.MinInt32, math.MaxInt32), true}, {0xD800, spans(0, 0xFFFF), true}, {0, Node{Spans: make([]Span, 1)}.Spans, true},
	} {
		if In(k.r, false, k.l) != k.want || In(k.r, true, k.l) == k.want {
			t.Errorf("In(%d, .., %v): it is not %v, and turned round by not", k.r, k.l, k.want)
		}
	}
}

// P15.1: of nodes, each has memory of its own.
func TestNodesShareNothing(t *testing.T) {
	const s = `\d\d[\d\w](\s|\s)*.|\w\w(a|b)`
	first, e := Parse(s)
	if e != api.OK {
		t.Fatal(e)
	}
	want := twin(first)
	spoil(first.Kids[0].Kids[0])
	for i := 1; i < len(first.Kids[0].Kids); i++ {
		if !alike(first.Kids[0].Kids[i], want.Kids[0].Kids[i]) {
			t.Errorf("kid %d was changed", i)
		}
	}
	for i := range first.Kids {
		_ = append(first.Kids[i].Kids, a)
		for j := range first.Kids[i].Kids {
			_ = append(first.Kids[i].Kids[j].Spans, Span{1, 1})
		}
	}
	spoil(first)
	expectNode(t, s, want)
}
