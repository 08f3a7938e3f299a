package nfa

import (
	"math"
	"slices"
	"strings"
	"testing"

	"larum/api"
	"larum/regex"
)

// machine: of an expression.
func machine(t *testing.T, s string) *Machine {
	t.Helper()
	m, e := Of(s)
	if m == nil || e != api.OK {
		t.Fatalf("Of(%q) is %d", s, e)
	}
	return m
}

// byHand: of states that begin at at.
func byHand(t *testing.T, at int, l ...regex.State) *Machine {
	t.Helper()
	m, e := New(l, at)
	if m == nil || e != api.OK {
		t.Fatalf("New(%+v, %d) is %d", l, at, e)
	}
	return m
}

func take(r rune, to int) regex.State {
	return regex.State{Kind: regex.Take, Spans: []regex.Span{{Lo: r, Hi: r}}, One: to}
}

func split(one, two int) regex.State {
	return regex.State{Kind: regex.Split, One: one, Two: two}
}

var halt = regex.State{Kind: regex.Halt}

// wrongTexts are not valid.
var wrongTexts = []string{"\x80", "\xBF", "\xFF", "\xC3", "\xC3(", "\xE2\x82", "\xE2\x82A", "\xF0\x9F\x98", "\xC0\x80", "\xED\xA0\x80", "\xF4\x90\x80\x80", "\xF8\x88\x80\x80\x80"}

func expectMatch(t *testing.T, m *Machine, want bool, l ...string) {
	t.Helper()
	for _, s := range l {
		if m.Match(s) != want {
			t.Errorf("Match(%.200q) is not %v", s, want)
		}
	}
}

// expectLongest: m takes the first most bytes of s, and no more; none at all,
// if most is below 0.
func expectLongest(t *testing.T, m *Machine, s string, most int) {
	t.Helper()
	if got, ok := m.Longest(s); got != max(most, 0) || ok != (most >= 0) {
		t.Errorf("Longest(%.200q) is %d, %v, not %d", s, got, ok, most)
	}
}

func expectSteps(t *testing.T, m *Machine, s string, want int) {
	t.Helper()
	if got := m.Steps(s); got != want {
		t.Errorf("Steps(%.200q) is %d, not %d", s, got, want)
	}
}

// expectNone: there is no such machine.
func expectNone(t *testing.T, at int, l ...regex.State) {
	t.Helper()
	if m, e := New(l, at); m != nil || e != api.ErrArg {
		t.Errorf("New(%+v, %d) is %+v, %d, not ErrArg alone", l, at, m, e)
	}
}

// P16.1: ErrArg of no state, of too many, and of a number that is none.
func TestNewOfWrongNumbers(t *testing.T) {
	for _, at := range []int{0, 1, -1, math.MaxInt, math.MinInt} {
		expectNone(t, at)
		if m, e := New([]regex.State{}, at); m != nil || e != api.ErrArg {
			t.Errorf("New of an empty list is %+v, %d", m, e)
		}
	}
	for _, size := range []int{1, 2, 400, 401} {
		l := make([]regex.State, size)
		for i := range l {
			l[i] = halt
		}
		for _, at := range []int{0, size / 2, size - 1} {
			if n := byHand(t, at, l...).Len(); n != size {
				t.Errorf("Len is %d, not %d", n, size)
			}
		}
		for _, at := range []int{-1, size, size + 1, 402, math.MaxInt, math.MinInt} {
			expectNone(t, at, l...)
		}
	}
	for _, size := range []int{402, 403, 10000} {
		l := make([]regex.State, size)
		for i := range l {
			l[i] = halt
		}
		expectNone(t, 0, l...)
		expectNone(t, size-1, l...)
	}
}

// P16.1: ErrArg of another kind, and of states that lead to none, wherever
// they stand.
func TestNewOfWrongStates(t *testing.T) {
	wrong := []regex.State{{}, {Kind: -1}, {Kind: 4}, {Kind: 99}, {Kind: math.MinInt}, {Kind: 0, One: 9}}
	for _, n := range []int{-1, 3, 4, math.MaxInt, math.MinInt} {
		wrong = append(wrong, take('a', n), split(n, 0), split(0, n), split(n, n), split(1, n), split(n, 2), regex.State{Kind: regex.Take, Not: true, One: n})
	}
	for _, s := range wrong {
		for at := range 3 {
			expectNone(t, at, s, halt, halt)
			expectNone(t, at, halt, s, halt)
			expectNone(t, at, take('a', 2), halt, s)
			expectNone(t, at, s, s, s)
		}
	}
	expectNone(t, 0, split(0, 1))
	expectNone(t, 0, take('a', 1))
	// What a Halt and a Take do not have counts for nothing.
	for _, n := range []int{-1, 3, 99, math.MaxInt, math.MinInt} {
		m := byHand(t, 1, regex.State{Kind: regex.Halt, One: n, Two: n, Not: true, Spans: []regex.Span{{Lo: 'x', Hi: 'a'}}}, regex.State{Kind: regex.Take, Spans: []regex.Span{{Lo: 'a', Hi: 'a'}}, One: 0, Two: n})
		expectMatch(t, m, true, "a")
		expectMatch(t, m, false, "", "b", "aa")
	}
	// At the bounds.
	m := byHand(t, 2, halt, take('a', 0), split(0, 1), take('b', 3), split(4, 4))
	expectMatch(t, m, true, "", "a")
	expectMatch(t, m, false, "aa", "b")
}

// P16.1: what Of answers of texts that are no expression, and too long ones,
// is what layer 15 answers.
func TestOfWrongExpressions(t *testing.T) {
	for _, s := range append([]string{"(", ")", "*", "a**", "[", "[]", "[z-a]", "a{", "a{2,1}", "a{17}", `\q`, `\`, "a{1", `[a-\d]`, "a|*", "{2}", strings.Repeat("(", 17) + strings.Repeat(")", 17)}, wrongTexts...) {
		if m, e := Of(s); m != nil || e != api.ErrForm {
			t.Errorf("Of(%q) is %+v, %d, not ErrForm alone", s, m, e)
		}
	}
	for _, s := range []string{"((a{16}){16}){2}", strings.Repeat("a", 401), "(a{16}){16}(a{12}){12}a", strings.Repeat("|", 401)} {
		if _, e := regex.Parse(s); e != api.ErrLong {
			t.Fatalf("Parse(%q) is %d", s, e)
		}
		if m, e := Of(s); m != nil || e != api.ErrLong {
			t.Errorf("Of(%q) is %+v, %d, not ErrLong alone", s, m, e)
		}
	}
}

// P16.1: Len is how many states there are, the Halt with them.
func TestLen(t *testing.T) {
	for s, want := range map[string]int{"": 1, "()": 1, "a": 2, "ab": 3, "a|b": 4, "a*": 3, "a+": 3, "a?": 3, "a{3}": 4, "a{2,4}": 7, "a(b|c)*[^x-z]{2,3}": 10, strings.Repeat("a", 400): 401, strings.Repeat("|", 400): 401} {
		if n := machine(t, s).Len(); n != want {
			t.Errorf("Len of %q is %d, not %d", s, n, want)
		}
	}
}

// P16.2: what expressions take, and what they don't; example 1.
func TestMatch(t *testing.T) {
	for x, l := range map[string][2][]string{
		"":            {{""}, {"a", " ", "\x00", "é"}},
		"()":          {{""}, {"a"}},
		"|":           {{""}, {"a", "|"}},
		"a":           {{"a"}, {"", "b", "aa", "A", "ab", "ba"}},
		"a*b":         {{"b", "ab", "aab", "aaaaaaab"}, {"", "a", "ba", "bb", "aaba", "abb"}},
		"ab":          {{"ab"}, {"", "a", "b", "ba", "abc", "aab"}},
		"a|b":         {{"a", "b"}, {"", "ab", "c", "|", "a|b"}},
		"a|":          {{"", "a"}, {"aa", "b"}},
		"|a|bc":       {{"", "a", "bc"}, {"b", "c", "abc"}},
		"ab|cd":       {{"ab", "cd"}, {"abd", "acd", "abcd", "ad"}},
		"(a|bc)+":     {{"a", "bca", "aabc", "bcbc"}, {"", "b", "bcb", "c"}},
		"(a|b)(c|d)":  {{"ac", "bd", "ad", "bc"}, {"a", "ab", "cd", "acd"}},
		"a+":          {{"a", "aaaa"}, {"", "b", "aab"}},
		"a?":          {{"", "a"}, {"aa", "b"}},
		"a{0}":        {{""}, {"a"}},
		"a{3}":        {{"aaa"}, {"", "a", "aa", "aaaa"}},
		"a{2,}":       {{"aa", "aaa", "aaaaaaa"}, {"", "a", "aab"}},
		"a{0,}":       {{"", "a", "aa"}, {"b"}},
		"a{1,3}":      {{"a", "aa", "aaa"}, {"", "aaaa"}},
		"a{0,2}b":     {{"b", "ab", "aab"}, {"aaab", "", "a"}},
		"(ab){2,3}":   {{"abab", "ababab"}, {"ab", "abababab", "aba"}},
		`\d{2,3}`:     {{"12", "123"}, {"1", "1234", "é1", "٣٣"}},
		`\w+`:         {{"aZ_09"}, {"", "-", "é", "a b", "ª"}},
		`\s`:          {{" ", "\t", "\n", "\r"}, {"", "\v", "\f", "\u00a0", "\u2028", "s", "  "}},
		".":           {{"é", "\n", "a", "\x00", "\r", "\uFFFD", "\U0010FFFF", "\u2028"}, {"", "ab", "\xFF", "\r\n"}},
		"..":          {{"ab", "éé", "\n\n"}, {"é", "a", "abc"}},
		"[^a]?":       {{"", "b", "\n", "é"}, {"a", "bb"}},
		"[a-cx]":      {{"a", "b", "c", "x"}, {"d", "w", "`", "-", ""}},
		"[^a-cx]":     {{"d", "w", "y"}, {"a", "b", "c", "x", ""}},
		"[à-é]*":      {{"", "àéè"}, {"ê", "a", "\xC3"}},
		"😀+é":         {{"😀é", "😀😀é"}, {"é", "😀", "\xF0\x9F\x98é"}},
		"(a*)*":       {{"", "a", "aaa"}, {"b", "aab"}},
		"(a*)+":       {{"", "a", "aaa"}, {"b"}},
		"(a?){3}":     {{"", "a", "aa", "aaa"}, {"aaaa"}},
		"()*":         {{""}, {"a"}},
		"(|a)+":       {{"", "a", "aa"}, {"b"}},
		"((a|b*)?c)*": {{"", "c", "ac", "bbc", "acbcc"}, {"a", "bb", "abc"}},
		`\*\.\\`:      {{`*.\`}, {`**.\`, `*.`, `*a\`}},
		"^a$":         {{"^a$"}, {"a"}},
		"a|b*|c":      {{"a", "c", "", "bbb"}, {"ab", "cc"}},
	} {
		m := machine(t, x)
		expectMatch(t, m, true, l[0]...)
		expectMatch(t, m, false, l[1]...)
	}
}

// P16.2: of texts that are not valid Match is false, Steps 0, and Longest
// looks at what is valid ahead.
func TestWrongTexts(t *testing.T) {
	for _, bad := range wrongTexts {
		for _, x := range []string{"", ".*", ".", "..", "(.|a)*", "[^a]*", "a*", "\uFFFD*", "(\uFFFD|a)*"} {
			m := machine(t, x)
			for _, s := range []string{bad, "a" + bad, bad + "a", "aa" + bad + "a", "é" + bad, strings.Repeat("a", 99) + bad, "bbb" + bad} {
				expectMatch(t, m, false, s)
				expectSteps(t, m, s, 0)
			}
		}
		m := machine(t, "a*")
		expectLongest(t, m, bad, 0)
		expectLongest(t, m, "aa"+bad, 2)
		expectLongest(t, m, "aa"+bad+"aaa", 2)
		expectLongest(t, m, "aba"+bad, 1)
		m = machine(t, ".+")
		expectLongest(t, m, bad, -1)
		expectLongest(t, m, "é€"+bad+"a", 5)
		expectLongest(t, machine(t, "ab"), "ab"+bad, 2)
		expectLongest(t, machine(t, "ab"), "a"+bad, -1)
		expectLongest(t, machine(t, ""), bad, 0)
	}
}

// P16.2: the longest beginning, the empty one, and none.
func TestLongest(t *testing.T) {
	for _, k := range []struct {
		x, s string
		want int
	}{
		{"ab*", "abbc", 3}, {"ab*", "a", 1}, {"ab*", "", -1}, {"ab*", "ba", -1}, {"ab*", "aab", 1},
		{"", "", 0}, {"", "abc", 0}, {"a*", "", 0}, {"a*", "baa", 0}, {"a?", "aa", 1}, {"a+", "baa", -1},
		{"a|ab|abc", "abcd", 3}, {"abc|ab|a", "abcd", 3}, {"a|ab", "ac", 1}, {"abc|a", "abd", 1}, {"a|abcd", "abcx", 1}, {"a|abcd|", "x", 0},
		{"(ab)*", "ababa", 4}, {"(ab)+", "aab", -1}, {"(aba)*", "abaab", 3},
		{".*", "é\n€", 6}, {".", "é", 2}, {"é*", "éé\xC3", 4}, {"é*", "é\xC3a", 2}, {".{2}", "a😀b", 5}, {".{3}", "éa", -1}, {"é|éa€", "éa\xE2\x82", 2}, {"é|éa€", "éa\xE2\x82\xAC", 6},
		{"[^b]*", "aaba", 2}, {"a.*b", "axbxbx", 5}, {"a.*b", "axx", -1}, {"a{2,3}", "aaaaa", 3}, {"a{2,3}", "a", -1}, {"a{4}", "aaa", -1},
	} {
		expectLongest(t, machine(t, k.x), k.s, k.want)
	}
}

// P16.2: Steps, counted by hand: Splits and the Halt are states as others are.
func TestSteps(t *testing.T) {
	for _, k := range []struct {
		x, s string
		want int
	}{
		{"", "", 1}, {"", "a", 1}, {"", "abc", 1},
		{"a", "", 1}, {"a", "a", 1 + 1}, {"a", "b", 1}, {"a", "ab", 1 + 1},
		{"a|b", "", 3}, {"a|b", "a", 3 + 1}, {"a|b", "c", 3},
		{"a*", "", 3}, {"a*", "a", 6}, {"a*", "aaa", 12}, {"a*", "aab", 9}, {"a*", "baa", 3},
		{"a*b", "aab", 3 + 3 + 3 + 1}, {"a*b", "aabb", 3 + 3 + 3 + 1},
		{"a+", "a", 1 + 3}, {"a?", "a", 3 + 1}, {"a{2}", "aa", 1 + 1 + 1}, {"a{0}", "", 1},
		{"éa", "éa", 3}, {".*", "é€😀", 3 * 4},
		{"(a|a)b", "ab", 3 + 1 + 1}, {"ab|ac", "ac", 3 + 2 + 1},
		{"()*", "", 2}, {"()*", "a", 2}, {"|", "", 2}, {"(a*)*", "a", 4 + 4},
	} {
		expectSteps(t, machine(t, k.x), k.s, k.want)
	}
}

// P16.2: machines made by hand: more than one Halt, none, one that goes on to
// itself, states that nothing leads to.
func TestMachinesByHand(t *testing.T) {
	m := byHand(t, 0, halt)
	expectMatch(t, m, true, "")
	expectMatch(t, m, false, "a")
	expectSteps(t, m, "aaa", 1)
	m = byHand(t, 1, halt, take('a', 3), halt, halt)
	expectMatch(t, m, true, "a")
	expectMatch(t, m, false, "", "aa")
	m = byHand(t, 0, take('a', 0))
	expectMatch(t, m, false, "", "a", "aa", "b")
	expectSteps(t, m, "aaab", 4)
	expectLongest(t, m, "aaa", -1)
	m = byHand(t, 0, regex.State{Kind: regex.Take, Not: true, One: 1}, split(0, 2), halt)
	expectMatch(t, m, true, "a", "é\n")
	expectMatch(t, m, false, "")
	expectSteps(t, m, "ab", 1+3+3)
	// Two ways to one state count once; a Halt that is left takes no more.
	m = byHand(t, 4, halt, take('a', 3), take('a', 3), split(0, 0), split(1, 2))
	expectMatch(t, m, true, "a")
	expectMatch(t, m, false, "", "aa")
	expectSteps(t, m, "a", 3+2)
	expectSteps(t, m, "aa", 3+2)
	// Spans that fall, and none at all, take nothing; of Not all.
	m = byHand(t, 1, halt, regex.State{Kind: regex.Take, Spans: []regex.Span{{Lo: 'c', Hi: 'a'}}})
	expectMatch(t, m, false, "", "a", "b", "c")
	m = byHand(t, 1, halt, regex.State{Kind: regex.Take})
	expectMatch(t, m, false, "", "a", "\x00")
	m = byHand(t, 1, halt, regex.State{Kind: regex.Take, Not: true, Spans: []regex.Span{{Lo: 'c', Hi: 'a'}}})
	expectMatch(t, m, true, "a", "b", "\x00", "😀")
}

// P1, P16.2: Splits that lead to one another in a ring.
func TestRings(t *testing.T) {
	m := byHand(t, 0, split(0, 0))
	expectMatch(t, m, false, "", "a")
	expectSteps(t, m, "", 1)
	expectSteps(t, m, "aa", 1)
	expectLongest(t, m, "a", -1)
	m = byHand(t, 1, halt, split(2, 3), split(1, 3), split(1, 2))
	expectMatch(t, m, false, "", "a")
	expectSteps(t, m, "a", 3)
	m = byHand(t, 1, halt, split(2, 2), split(3, 1), split(4, 2), take('a', 5), split(5, 6), split(1, 0))
	expectMatch(t, m, true, "a", "aa", "aaaa")
	expectMatch(t, m, false, "", "b", "ab")
	expectSteps(t, m, "aa", 4+7+7)
	expectLongest(t, m, "aaab", 3)
	// As long a ring as may be, with a way out at its end.
	l := []regex.State{halt}
	for i := 1; i <= api.MaxState; i++ {
		l = append(l, split(i%api.MaxState+1, (i*7)%api.MaxState+1))
	}
	expectSteps(t, byHand(t, 1, l...), "a", api.MaxState)
	l[api.MaxState] = split(0, 1)
	m = byHand(t, 1, l...)
	expectMatch(t, m, true, "")
	expectMatch(t, m, false, "a")
	expectSteps(t, m, "", api.MaxState+1)
}

// Of a nil machine, and of one without states: false, 0.
func TestNilMachine(t *testing.T) {
	for _, m := range []*Machine{nil, {}, new(Machine)} {
		if m.Len() != 0 {
			t.Errorf("Len is %d", m.Len())
		}
		for _, s := range append([]string{"", "a", "é", strings.Repeat("a", 1000)}, wrongTexts...) {
			expectMatch(t, m, false, s)
			expectSteps(t, m, s, 0)
			expectLongest(t, m, s, -1)
		}
	}
}

// A list that is handed in is not kept, and not changed.
func TestNewKeepsNothing(t *testing.T) {
	l := []regex.State{halt, take('b', 0), take('a', 1)}
	before := slices.Clone(l)
	m := byHand(t, 2, l...)
	expectMatch(t, m, true, "ab")
	for i := range l {
		if l[i].Kind != before[i].Kind || l[i].One != before[i].One || !slices.Equal(l[i].Spans, before[i].Spans) {
			t.Errorf("state %d was changed", i)
		}
		for j := range l[i].Spans {
			l[i].Spans[j] = regex.Span{Lo: 'x', Hi: 'x'}
		}
		l[i] = regex.State{Kind: 9, One: 99}
	}
	expectMatch(t, m, true, "ab")
	expectMatch(t, m, false, "xx", "", "a")
	expectSteps(t, m, "ab", 3)
}

// P16.2: what a machine answers hangs on nothing that it was asked ahead.
func TestAnswersStandAlone(t *testing.T) {
	m := machine(t, "(a|ab)(c|bcd)*")
	for range 3 {
		expectMatch(t, m, true, "a", "ab", "abcd", "abcc")
		expectSteps(t, m, "abcd", 3+6+6+6+5)
		expectMatch(t, m, false, "", "abc\xFF", "b")
		expectLongest(t, m, "abcdbc", 4)
		expectSteps(t, m, "\xFF", 0)
	}
}

// P16.2, P16.3: in time that grows with the text's length alone.
func TestLongTexts(t *testing.T) {
	const size = 20000
	s := strings.Repeat("a", size)
	for _, x := range []string{"(a*)*b", "(a|aa)+b", "(a|a?)+b", "(a?){16}a*b", "(.*)(.*)(.*)(.*)b", "(((a*)*)*)*b", "a*a*a*a*a*a*b"} {
		m := machine(t, x)
		expectMatch(t, m, false, s)
		expectMatch(t, m, true, s+"b")
		expectLongest(t, m, s, -1)
		expectLongest(t, m, s+"b", size+1)
		if n := m.Steps(s); n < size || n > m.Len()*(size+1) {
			t.Errorf("Steps of %q is %d", x, n)
		}
	}
	m := machine(t, "(a?){16}a{16}")
	expectMatch(t, m, true, s[:16], s[:25], s[:32])
	expectMatch(t, m, false, s[:15], s[:33], s)
}
