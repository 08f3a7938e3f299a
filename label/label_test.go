package label

import (
	"math/big"
	"math/rand"
	"regexp"
	"slices"
	"strings"
	"testing"
	"unicode/utf8"

	"larum/api"
)

// wrongValues are no values: no bytes, and bytes that are no runes'.
var wrongValues = []string{
	"", "\x80", "\xBF", "\xFF", "\xC3", "a\xC3", "\xC3(", "\xE2\x82", "é\xE2\x82", "\xE2\x82A", "\xF0\x9F\x98", "\xC0\x80", "\xC1\xBF", "\xE0\x80\x80", "\xF0\x80\x80\x80", "\xED\xA0\x80", "\xED\xBF\xBF", "\xF4\x90\x80\x80", "\xF8\x88\x80\x80\x80", "é\xFF", "\xFFé",
}

// wrongNames are no names.
var wrongNames = []string{
	"", "1", "0a", "9_", "12", "-", "a-b", "a.b", "a b", " a", "a ", "\ta", "a\t", "a\n", "\x00", "a\x00", "é", "aé", "a\xFF", "\x80", "a\x80", "a:", ":a", "a=", "=", "a,b", ",", "{a", "a}", "{}", `"a"`, `a"`, `\a`, "a/b", "a*", "a!", "@", "a[", "a^", "a`", "~a",
}

// set: the set of names and values, one behind the other.
func set(t *testing.T, l ...string) Set {
	t.Helper()
	s, e := Of(pairs(l...)...)
	if e != api.OK {
		t.Fatalf("Of(%q) is %d", l, e)
	}
	return s
}

// pairs: names and values, one behind the other, as pairs.
func pairs(l ...string) []Pair {
	var p []Pair
	for i := 0; i < len(l); i += 2 {
		p = append(p, Pair{l[i], l[i+1]})
	}
	return p
}

// expectSet: s has just these names and values, which rise by their names,
// and this text.
func expectSet(t *testing.T, s Set, text string, l ...string) {
	t.Helper()
	want := pairs(l...)
	if got := s.Pairs(); !slices.Equal(got, want) || s.Len() != len(want) || s.String() != text {
		t.Errorf("%q, %d, %q, not %q, %q", got, s.Len(), s.String(), want, text)
	}
	for _, p := range want {
		if got := s.Get(p.Name); got != p.Value {
			t.Errorf("Get(%q) of %s is %q, not %q", p.Name, text, got, p.Value)
		}
	}
}

func expectNoSet(t *testing.T, want api.Errno, l ...Pair) {
	t.Helper()
	if s, e := Of(l...); s.Pairs() != nil || e != want {
		t.Errorf("Of(%q) is %s, %d, not %d alone", l, s, e, want)
	}
}

func expectNoParse(t *testing.T, s string) {
	t.Helper()
	if got, e := Parse(s); got.Pairs() != nil || e != api.ErrForm {
		t.Errorf("Parse(%.200q) is %s, %d, not ErrForm alone", s, got, e)
	}
}

// expectText: s is the text of the set of these pairs.
func expectText(t *testing.T, s string, l ...string) {
	t.Helper()
	got, e := Parse(s)
	if e != api.OK {
		t.Errorf("Parse(%q) is %d", s, e)
	}
	expectSet(t, got, s, l...)
	expectSet(t, set(t, l...), s, l...)
}

// P14.1: Name of names.
func TestName(t *testing.T) {
	for _, s := range []string{"a", "z", "A", "Z", "_", "__", "_1", "a0", "a9", "aZ_09", "alertname", "A_b", "___9", strings.Repeat("a", 10000)} {
		if !Name(s) {
			t.Errorf("Name(%.50q) is false", s)
		}
	}
	for _, s := range wrongNames {
		if Name(s) {
			t.Errorf("Name(%q) is true", s)
		}
	}
}

// isNameByte: as the chapter names the bytes, the first one of a name or a
// later one.
func isNameByte(c int, first bool) bool {
	return 'a' <= c && c <= 'z' || 'A' <= c && c <= 'Z' || c == '_' || !first && '0' <= c && c <= '9'
}

// P14.1: each byte first, within and last in a name, for Name and for Of.
func TestEveryByteInName(t *testing.T) {
	for c := range 256 {
		x := string([]byte{byte(c)})
		for _, k := range []struct {
			name  string
			first bool
		}{{x, true}, {x + "a", true}, {x + x, true}, {"a" + x, false}, {"_" + x, false}, {"a" + x + "b", false}, {"a0" + x, false}} {
			is := isNameByte(c, k.first)
			if Name(k.name) != is {
				t.Errorf("Name(%q) is %v", k.name, !is)
			}
			if is {
				expectText(t, "{"+k.name+`="v"}`, k.name, "v")
			} else {
				expectNoSet(t, api.ErrForm, Pair{k.name, "v"})
				expectNoParse(t, "{"+k.name+`="v"}`)
			}
		}
	}
}

// P14.1: Of without pairs, of one, of some in any order; example 1.
func TestOf(t *testing.T) {
	expectSet(t, set(t), "{}")
	expectSet(t, set(t, "a", "1"), `{a="1"}`, "a", "1")
	expectSet(t, set(t, "b", "2", "a", "1"), `{a="1",b="2"}`, "a", "1", "b", "2")
	expectSet(t, set(t, "a", "1", "b", "2"), `{a="1",b="2"}`, "a", "1", "b", "2")
	// By bytes: great letters ahead of _, that ahead of small ones; a
	// beginning ahead of the whole.
	expectSet(t, set(t, "aa", "1", "a", "2", "_", "3", "Z", "4", "a0", "5", "aA", "6", "a_", "7", "b", "8", "A", "9"), `{A="9",Z="4",_="3",a="2",a0="5",aA="6",a_="7",aa="1",b="8"}`, "A", "9", "Z", "4", "_", "3", "a", "2", "a0", "5", "aA", "6", "a_", "7", "aa", "1", "b", "8")
	// Values may be alike, and be any that are valid.
	expectSet(t, set(t, "b", "x", "a", "x"), `{a="x",b="x"}`, "a", "x", "b", "x")
	expectSet(t, set(t, "a", "\x00"), `{a="\u0000"}`, "a", "\x00")
	expectSet(t, set(t, "a", " "), `{a=" "}`, "a", " ")
}

// P14.1: all orders of some pairs are the same set.
func TestOfInAnyOrder(t *testing.T) {
	l := pairs("a", "4", "b", "3", "c", "2", "d", "1", "e", "0")
	var orders func(ahead, left []Pair)
	orders = func(ahead, left []Pair) {
		if len(left) == 0 {
			s, e := Of(ahead...)
			if e != api.OK || !Same(s, set(t, "a", "4", "b", "3", "c", "2", "d", "1", "e", "0")) {
				t.Errorf("Of(%q) is %s, %d", ahead, s, e)
			}
			expectSet(t, s, `{a="4",b="3",c="2",d="1",e="0"}`, "a", "4", "b", "3", "c", "2", "d", "1", "e", "0")
		}
		for i := range left {
			orders(append(slices.Clone(ahead), left[i]), slices.Delete(slices.Clone(left), i, i+1))
		}
	}
	orders(nil, l)
}

// P14.1: ErrForm of names and values that are none, wherever they stand.
func TestOfWrongPairs(t *testing.T) {
	var wrong []Pair
	for _, name := range wrongNames {
		wrong = append(wrong, Pair{name, "v"}, Pair{name, ""}, Pair{name, "\xFF"})
	}
	for _, value := range wrongValues {
		wrong = append(wrong, Pair{"n", value}, Pair{"_", value})
	}
	a, z := Pair{"a", "1"}, Pair{"z", "2"}
	for _, p := range wrong {
		for _, l := range [][]Pair{{p}, {p, a}, {a, p}, {a, p, z}, {z, a, p}, {p, p}} {
			expectNoSet(t, api.ErrForm, l...)
		}
		// Beside a name twice, ahead of it and behind it.
		for _, l := range [][]Pair{{a, a, p}, {p, a, a}, {a, p, a}, {a, {"a", "2"}, p}, {p, z, a, z}} {
			expectNoSet(t, api.ErrForm, l...)
		}
	}
}

// P14.1: ErrState of a name twice, with one value and with two.
func TestOfNameTwice(t *testing.T) {
	for _, l := range [][]string{
		{"a", "1", "a", "1"}, {"a", "1", "a", "2"}, {"a", "2", "a", "1"}, {"a", "1", "b", "1", "a", "1"}, {"a", "1", "b", "1", "a", "2"}, {"b", "1", "a", "1", "b", "2", "c", "1"}, {"a", "1", "a", "1", "a", "1"}, {"_", "1", "a", "1", "_", "1"}, {"a", "1", "b", "2", "c", "3", "c", "3"},
	} {
		expectNoSet(t, api.ErrState, pairs(l...)...)
	}
	// Names are alike by their bytes alone.
	expectSet(t, set(t, "a", "1", "A", "1"), `{A="1",a="1"}`, "A", "1", "a", "1")
	expectSet(t, set(t, "a", "1", "a_", "1", "_a", "1"), `{_a="1",a="1",a_="1"}`, "_a", "1", "a", "1", "a_", "1")
}

// The zero Set is the empty one, at each call.
func TestZeroSet(t *testing.T) {
	var zero Set
	for _, s := range []Set{zero, set(t), zero.Pick("a"), set(t, "a", "1").Pick(), set(t, "a", "1").Pick("b")} {
		expectSet(t, s, "{}")
		if s.Get("") != "" || s.Get("a") != "" || !Same(s, zero) || !Same(zero, s) || Same(s, set(t, "a", "1")) || Same(set(t, "a", "1"), s) {
			t.Errorf("%s is not the empty one", s)
		}
		expectSet(t, s.Pick(), "{}")
		expectSet(t, s.Pick("a", "", "a"), "{}")
		if s.Hash() != zero.Hash() {
			t.Errorf("Hash is %x", s.Hash())
		}
	}
	if s, e := Of([]Pair(nil)...); !Same(s, zero) || e != api.OK {
		t.Errorf("Of no pairs is %s, %d", s, e)
	}
	if s, e := Of([]Pair{}...); !Same(s, zero) || e != api.OK {
		t.Errorf("Of no pairs is %s, %d", s, e)
	}
}

// P14.1: Get of names that there are, and of others.
func TestGet(t *testing.T) {
	s := set(t, "b", "2", "d", "4", "bb", "é", "_", "0")
	for name, want := range map[string]string{
		"b": "2", "d": "4", "bb": "é", "_": "0", "a": "", "c": "", "e": "", "B": "", "": "", "ba": "", "bbb": "", "d ": "", " d": "", "2": "", "__": "", "b=": "", `b="2"`: "", "\xFF": "", "\x00": "",
	} {
		if got := s.Get(name); got != want {
			t.Errorf("Get(%q) is %q, not %q", name, got, want)
		}
	}
}

// P14.1: Pick of names that there are, and of others, twice, of none.
func TestPick(t *testing.T) {
	s := set(t, "a", "1", "b", "2", "c", "3", "d", "4")
	for _, k := range []struct {
		names []string
		text  string
		want  []string
	}{
		{nil, "{}", nil},
		{[]string{""}, "{}", nil},
		{[]string{"e", "A", "ab", " a", "0", "\xFF"}, "{}", nil},
		{[]string{"a"}, `{a="1"}`, []string{"a", "1"}},
		{[]string{"d"}, `{d="4"}`, []string{"d", "4"}},
		{[]string{"c", "a"}, `{a="1",c="3"}`, []string{"a", "1", "c", "3"}},
		{[]string{"b", "b", "b"}, `{b="2"}`, []string{"b", "2"}},
		{[]string{"c", "x", "b", "c", "", "b"}, `{b="2",c="3"}`, []string{"b", "2", "c", "3"}},
		{[]string{"d", "c", "b", "a"}, `{a="1",b="2",c="3",d="4"}`, []string{"a", "1", "b", "2", "c", "3", "d", "4"}},
		{[]string{"a", "b", "c", "d", "e"}, `{a="1",b="2",c="3",d="4"}`, []string{"a", "1", "b", "2", "c", "3", "d", "4"}},
	} {
		got := s.Pick(k.names...)
		expectSet(t, got, k.text, k.want...)
		if !Same(got, set(t, k.want...)) {
			t.Errorf("Pick(%q) is %s", k.names, got)
		}
		expectSet(t, got.Pick(k.names...), k.text, k.want...)
	}
	expectSet(t, s, `{a="1",b="2",c="3",d="4"}`, "a", "1", "b", "2", "c", "3", "d", "4")
}

// P14.1: Same of sets that were made in other ways, and of those that differ
// in one thing.
func TestSame(t *testing.T) {
	parsed, _ := Parse(`{a="1",b="2"}`)
	alike := []Set{set(t, "a", "1", "b", "2"), set(t, "b", "2", "a", "1"), parsed, set(t, "a", "1", "b", "2", "c", "3").Pick("b", "a")}
	others := []Set{set(t, "a", "1"), set(t, "b", "2"), set(t, "a", "2", "b", "1"), set(t, "a", "1", "b", "3"), set(t, "a", "1", "c", "2"), set(t, "a", "1", "b", "2", "c", "3"), set(t, "A", "1", "b", "2"), set(t, "_", "1", "a", "1", "b", "2"), set(t, "a", "1", "b", "2 "), {}}
	for i, a := range alike {
		for _, b := range alike {
			if !Same(a, b) || a.Hash() != b.Hash() || a.String() != b.String() {
				t.Errorf("%s and %s are not the same", a, b)
			}
		}
		for j, b := range others {
			if Same(a, b) || Same(b, a) || a.String() == b.String() {
				t.Errorf("%s (%d) and %s (%d) are the same", a, i, b, j)
			}
		}
	}
	for i, a := range others {
		for j, b := range others {
			if Same(a, b) != (i == j) || (a.String() == b.String()) != (i == j) {
				t.Errorf("%s and %s: %v", a, b, Same(a, b))
			}
		}
	}
}

// P14.2: texts of sets, to and fro.
func TestText(t *testing.T) {
	expectText(t, "{}")
	expectText(t, `{a="1"}`, "a", "1")
	expectText(t, `{a="1",b="2"}`, "a", "1", "b", "2")
	expectText(t, `{_="x",_1="y",a_B9="z"}`, "_", "x", "_1", "y", "a_B9", "z")
	// Signs of the text within values.
	expectText(t, `{a="\"",b=",",c="{",d="}",e="=",f="\\",g="\",h=\"",i="{a=\"1\"}"}`, "a", `"`, "b", ",", "c", "{", "d", "}", "e", "=", "f", `\`, "g", `",h="`, "i", `{a="1"}`)
	expectText(t, `{a=" ",b="  x ",c="/",d="'"}`, "a", " ", "b", "  x ", "c", "/", "d", "'")
	// Control bytes.
	expectText(t, `{a="\b\f\n\r\t",b="\u0000\u0001\u0007\u000b\u000e\u001f",c="`+"\x7F"+`"}`, "a", "\b\f\n\r\t", "b", "\x00\x01\x07\x0B\x0E\x1F", "c", "\x7F")
	// Runes of two to four bytes, the first ones and the last ones.
	expectText(t, `{a="é",b="€",c="😀"}`, "a", "é", "b", "€", "c", "😀")
	expectText(t, "{a=\"\u0080\u07FF\u0800\uD7FF\uE000\uFFFF\U00010000\U0010FFFF\"}", "a", "\u0080\u07FF\u0800\uD7FF\uE000\uFFFF\U00010000\U0010FFFF")
}

// P14.2: each byte as a value, in one, and in its quotes.
func TestEveryByteInValue(t *testing.T) {
	const hex = "0123456789abcdef"
	short := map[int]string{'"': `\"`, '\\': `\\`, 8: `\b`, 12: `\f`, 10: `\n`, 13: `\r`, 9: `\t`}
	for c := range 256 {
		x := string([]byte{byte(c)})
		quoted, ok := short[c]
		switch {
		case ok:
		case c < 0x20:
			quoted = `\u00` + hex[c>>4:c>>4+1] + hex[c&15:c&15+1]
		default:
			quoted = x
		}
		for _, k := range []struct{ ahead, behind string }{{"", ""}, {"a", ""}, {"", "a"}, {"é", "€"}} {
			value := k.ahead + x + k.behind
			if !utf8.ValidString(value) {
				expectNoSet(t, api.ErrForm, Pair{"n", value})
				expectNoParse(t, `{n="`+value+`"}`)
				continue
			}
			expectText(t, `{n="`+k.ahead+quoted+k.behind+`"}`, "n", value)
			if quoted != x {
				expectNoParse(t, `{n="`+value+`"}`)
			}
		}
	}
}

// P14.2: Parse of texts that are no set's.
func TestParseOfWrongTexts(t *testing.T) {
	for _, s := range []string{
		"", "{", "}", "{}{}", "}{", "{{}}", "[]", "()", "a", `a="1"`, `{a="1"`, `a="1"}`, `"a"`, "null", "{,}", "{=}", `{=""}`, `{="1"}`, "{a}", "{a=}", "{a=1}", "{a='1'}", `{a="1}`, `{a=1"}`, `{a""}`, `{a:"1"}`, `{"a":"1"}`, `{"a"="1"}`, `{a=="1"}`, `{a="1"="2"}`, `{a=~"1"}`, `{a!="1"}`, `{a="1""2"}`, `{a="1"b="2"}`, `{a="1";b="2"}`, `{a=null}`, `{a=true}`, `{a={}}`, `{a=[}`, `{a="1",b=2}`, `{a="1",b}`, `{a="1",b=}`, `{a="1",b="}`,
		// Blanks.
		" ", "{ }", " {}", "{} ", "\t{}", "{}\n", "{\n}", ` {a="1"}`, `{ a="1"}`, `{a ="1"}`, `{a= "1"}`, "{a=\t\"1\"}", "{a=\n\"1\"}", "{a=\r\"1\"}", `{a="1" }`, `{a="1"} `, `{a="1", b="2"}`, `{a="1" ,b="2"}`, `{a="1",b= "2"}`, "{a=\"1\",\nb=\"2\"}", "{a=\"1\"}\n",
		// Names out of order, twice, or none.
		`{b="1",a="1"}`, `{b="2",a="1",c="3"}`, `{a="1",c="3",b="2"}`, `{a="1",_="1"}`, `{a="1",A="1"}`, `{aa="1",a="1"}`, `{a="1",a="1"}`, `{a="1",a="2"}`, `{a="2",a="1"}`, `{a="1",b="1",b="2"}`, `{a="1",b="1",a="1"}`, `{1="1"}`, `{a-b="1"}`, `{é="1"}`, `{a="1",="2"}`, `{a="1",1="2"}`, `{a,b="1"}`,
		// Values that are none, or quoted in another way.
		`{a=""}`, `{a="",b="1"}`, `{a="1",b=""}`, `{a="\u0031"}`, `{a="\/"}`, `{a="\u000A"}`, `{a="\u000a"}`, `{a="\u0009"}`, `{a="\u0008"}`, `{a="\u001F"}`, `{a="\u00e9"}`, `{a="\u20ac"}`, `{a="\ud83d\ude00"}`, `{a="\u0022"}`, `{a="\u005c"}`, `{a="\u007f"}`, `{a="\x41"}`, `{a="\a"}`, `{a="\'"}`, `{a="\`, `{a="\"}`, `{a="\u00"}`, `{a="\ud83d"}`, `{a="\ude00"}`,
		"{a=\"\n\"}", "{a=\"\t\"}", "{a=\"\x00\"}", "{a=\"\x1F\"}", "{a=\"\xFF\"}", "{a=\"\xC3\"}", "{a=\"\xED\xA0\x80\"}", "{a=\"é\xE2\x82\"}",
		// Something behind the brace, ahead of it, or a comma too many.
		`{}x`, `{},`, `{}}`, `{a="1"}x`, `{a="1"}}`, `{a="1"},`, `{a="1"}{b="2"}`, "{a=\"1\"}\x00", "{a=\"1\"}\xFF", `x{a="1"}`, `{{a="1"}`, `{a="1",}`, `{a="1",,b="2"}`, `{,a="1"}`, `{a="1",}}`, "\xFF{}", "\x00",
	} {
		expectNoParse(t, s)
	}
}

// P14.2: no beginning of a text is one, and no text with a byte more, or less.
func TestTextsNearby(t *testing.T) {
	for _, s := range []string{"{}", `{a="1"}`, `{_1="\"",a="é\n",b="}"}`} {
		for i := range len(s) {
			expectNoParse(t, s[:i])
			if i > 0 {
				expectNoParse(t, s[i:])
			}
		}
		for c := range 256 {
			expectNoParse(t, s+string([]byte{byte(c)}))
			expectNoParse(t, string([]byte{byte(c)})+s)
		}
	}
}

// hashOf: a text's hash by the chapter's rule, with numbers that have no end.
func hashOf(s string) uint64 {
	h, _ := new(big.Int).SetString("CBF29CE484222325", 16)
	prime, _ := new(big.Int).SetString("100000001B3", 16)
	mod := new(big.Int).Lsh(big.NewInt(1), 64)
	for i := range len(s) {
		h.Xor(h, big.NewInt(int64(s[i])))
		h.Mul(h, prime)
		h.Mod(h, mod)
	}
	return h.Uint64()
}

// P14.2: Hash by the chapter's rule, byte by byte.
func TestHash(t *testing.T) {
	for _, l := range [][]string{
		nil, {"a", "1"}, {"b", "2", "a", "1"}, {"a", "é"}, {"a", "\x00"}, {"a", `"`}, {"a", "\U0010FFFF", "b", "\x7F"}, {"_", strings.Repeat("x", 1000)},
	} {
		s := set(t, l...)
		if got, want := s.Hash(), hashOf(s.String()); got != want {
			t.Errorf("Hash of %.200s is %x, not %x", s, got, want)
		}
	}
	// Two that were worked out elsewhere.
	if got := set(t).Hash(); got != 0x8f44b07b5901a25 {
		t.Errorf("Hash of {} is %016x", got)
	}
	if got := set(t, "a", "1").Hash(); got != 0x7e3621b98b825664 {
		t.Errorf("Hash of {a=\"1\"} is %016x", got)
	}
}

// Rules 4 and 5: what a caller does to a list, its own or an answer, is seen
// in no set.
func TestSetsShareNothing(t *testing.T) {
	l := pairs("c", "3", "a", "1", "b", "2")
	s, _ := Of(l...)
	if !slices.Equal(l, pairs("c", "3", "a", "1", "b", "2")) {
		t.Errorf("the list became %q", l)
	}
	for i := range l {
		l[i] = Pair{"spoilt", "spoilt"}
	}
	expect := func() {
		t.Helper()
		expectSet(t, s, `{a="1",b="2",c="3"}`, "a", "1", "b", "2", "c", "3")
	}
	expect()
	got, other := s.Pairs(), s.Pairs()
	got[1] = Pair{"spoilt", "spoilt"}
	_ = append(got[:2], Pair{"spoilt", "spoilt"})
	_ = append(got, Pair{"spoilt", "spoilt"})
	expect()
	if !slices.Equal(other, pairs("a", "1", "b", "2", "c", "3")) {
		t.Errorf("another answer became %q", other)
	}
	picked := s.Pick("a", "b", "c")
	picked.Pairs()[0] = Pair{"spoilt", "spoilt"}
	_ = append(s.Pick("a").Pairs(), Pair{"spoilt", "spoilt"})
	names := []string{"c", "a"}
	s.Pick(names...)
	if !slices.Equal(names, []string{"c", "a"}) {
		t.Errorf("the names became %q", names)
	}
	expect()
	expectSet(t, picked, `{a="1",b="2",c="3"}`, "a", "1", "b", "2", "c", "3")
	sorted := pairs("a", "1", "b", "2", "c", "3")
	again, _ := Of(sorted...)
	sorted[0].Value = "spoilt"
	expectSet(t, again, `{a="1",b="2",c="3"}`, "a", "1", "b", "2", "c", "3")
}

// someSet: pairs by chance, no name twice.
func someSet(r *rand.Rand) []Pair {
	runes := []rune("ab\"\\{},= \n\t\x00\x1F\x7Fé€😀")
	var l []Pair
	for range r.Intn(6) {
		value := string(runes[r.Intn(len(runes))])
		for range r.Intn(4) {
			value += string(runes[r.Intn(len(runes))])
		}
		name := []string{"a", "b", "_", "A", "a1", "ab", "a_", "zz"}[r.Intn(8)]
		if !slices.ContainsFunc(l, func(p Pair) bool { return p.Name == name }) {
			l = append(l, Pair{name, value})
		}
	}
	return l
}

// P14.3: Parse of String is the set; sets are the same just if their texts are.
func TestParseOfString(t *testing.T) {
	r := rand.New(rand.NewSource(143))
	var last Set
	for range 20000 {
		l := someSet(r)
		s, e := Of(l...)
		if e != api.OK || s.Len() != len(l) {
			t.Fatalf("Of(%q) is %s, %d", l, s, e)
		}
		for _, p := range l {
			if s.Get(p.Name) != p.Value {
				t.Errorf("Get(%q) of %s is %q", p.Name, s, s.Get(p.Name))
			}
		}
		got, e := Parse(s.String())
		if e != api.OK || !Same(got, s) || !slices.Equal(got.Pairs(), s.Pairs()) || got.Hash() != hashOf(s.String()) {
			t.Errorf("Parse(%q) is %s, %d", s.String(), got, e)
		}
		if same := slices.Equal(s.Pairs(), last.Pairs()); Same(s, last) != same || (s.String() == last.String()) != same {
			t.Errorf("%s and %s: %v", s, last, Same(s, last))
		}
		last = s
	}
}

// oneText is a pair as text, with a value quoted in the one way that there is.
const oneText = `[A-Za-z_][A-Za-z0-9_]*="(?:[^\x00-\x1F"\\]|\\["\\bfnrt]|\\u000[0-7be-f]|\\u001[0-9a-f])+"`

// someTexts is pairs as text, in whatever order; onePair is one of them, with
// its name.
var (
	someTexts = regexp.MustCompile(`^\{` + oneText + `(?:,` + oneText + `)*\}$`)
	onePair   = regexp.MustCompile(`([A-Za-z_][A-Za-z0-9_]*)="(?:[^"\\]|\\.)*"`)
)

// isText: is s a set's text, by the chapter's words?
func isText(s string) bool {
	if s == "{}" {
		return true
	}
	if !utf8.ValidString(s) || !someTexts.MatchString(s) {
		return false
	}
	last := ""
	for _, m := range onePair.FindAllStringSubmatch(s, -1) {
		if m[1] <= last {
			return false
		}
		last = m[1]
	}
	return true
}

// P14.2: Parse takes just sets' texts: texts by chance, nearly right.
func TestParseByChance(t *testing.T) {
	r := rand.New(rand.NewSource(142))
	bits := []string{"a", "b", "_", "1", "=", `"`, `"`, ",", "{", "}", " ", `\`, `\n`, `\u0000`, `\u0031`, "é", "\xFF", `b="1"`, "\n"}
	seen := [2]int{}
	for range 200000 {
		s, _ := Of(someSet(r)...)
		text := s.String()
		for range r.Intn(3) {
			at := r.Intn(len(text))
			text = text[:at] + bits[r.Intn(len(bits))] + text[min(at+r.Intn(3), len(text)):]
		}
		is := isText(text)
		got, e := Parse(text)
		if (e == api.OK) != is || is && got.String() != text || !is && (got.Pairs() != nil || e != api.ErrForm) {
			t.Fatalf("Parse(%q) is %s, %d", text, got, e)
		}
		if is {
			seen[1]++
		} else {
			seen[0]++
		}
	}
	if seen[0] < 10000 || seen[1] < 10000 {
		t.Error(seen)
	}
}

// P1: sets of many pairs, and long texts, end soon.
func TestManyPairs(t *testing.T) {
	const many = 1 << 16
	name := func(i int) string {
		b := []byte("n0000")
		for j := range 4 {
			b[j+1] = "0123456789ABCDEF"[i>>(12-4*j)&15]
		}
		return string(b)
	}
	l := make([]Pair, many)
	names := make([]string, 0, many*2)
	for i := range l {
		l[i] = Pair{name(many - 1 - i), "v"}
		names = append(names, name(i), "x")
	}
	s, e := Of(l...)
	if e != api.OK || s.Len() != many || s.Get("n0000") != "v" || s.Get("nFFFF") != "v" {
		t.Error(s.Len(), e)
	}
	if got := s.Pick(names...); !Same(got, s) {
		t.Error(got.Len())
	}
	if got, e := Parse(s.String()); e != api.OK || !Same(got, s) || got.Hash() != s.Hash() {
		t.Error(got.Len(), e)
	}
	expectNoSet(t, api.ErrState, append(l, Pair{"n8000", "w"})...)
	long := strings.Repeat("a", 1<<20)
	expectText(t, "{"+long+`="`+long+`"}`, long, long)
	for _, s := range []string{long, "{" + long, "{" + long + "=", "{a=" + long, `{a="` + long, strings.Repeat("{", 1<<20), strings.Repeat(`{a="1",`, 1<<17), "{" + strings.Repeat(`a="1",`, 1<<17), "{" + strings.Repeat("=", 1<<20), strings.Repeat(" ", 1<<20), "{a=" + strings.Repeat(" ", 1<<20)} {
		expectNoParse(t, s)
	}
}

// P1: no call panics, whatever it is given; what Parse takes String gives back.
func FuzzParse(f *testing.F) {
	f.Add(`{a="1",b="\n"}`, "a", "1", "b", "\n")
	f.Add("{}", "", "", "", "")
	f.Add(`{a="",`, "1", "\xFF", "a", "a")
	f.Fuzz(func(t *testing.T, s, name, value, other, more string) {
		got, e := Parse(s)
		if is := isText(s); (e == api.OK) != is || is && got.String() != s {
			t.Errorf("Parse(%q) is %s, %d", s, got, e)
		}
		if again, e := Of(got.Pairs()...); e != api.OK || !Same(again, got) {
			t.Errorf("Of(%q) is %s, %d", got.Pairs(), again, e)
		}
		l := []Pair{{name, value}, {other, more}}
		made, e := Of(l...)
		want := api.OK
		switch {
		case !Name(name) || !Name(other) || value == "" || more == "" || !utf8.ValidString(value) || !utf8.ValidString(more):
			want = api.ErrForm
		case name == other:
			want = api.ErrState
		}
		if e != want {
			t.Errorf("Of(%q) is %s, %d, not %d", l, made, e, want)
		}
		if x, e := Parse(made.String()); e != api.OK || !Same(x, made) || x.Hash() != hashOf(made.String()) {
			t.Errorf("Parse(%q) is %s, %d", made.String(), x, e)
		}
		if x := made.Pick(name, s); x.Len() > 0 && (x.Get(name) != made.Get(name) || x.Get(s) != made.Get(s)) {
			t.Errorf("Pick(%q, %q) of %s is %s", name, s, made, x)
		}
	})
}
