package match

import (
	"math"
	"slices"
	"strconv"
	"strings"
	"testing"

	"larum/api"
	"larum/label"
)

// wrongValues are not valid.
var wrongValues = []string{"\x80", "\xBF", "\xFF", "\xC3", "a\xC3", "\xC3(", "\xE2\x82", "é\xE2\x82A", "\xF0\x9F\x98", "\xC0\x80", "\xE0\x80\x80", "\xED\xA0\x80", "\xED\xBF\xBF", "\xF4\x90\x80\x80", "\xF8\x88\x80\x80\x80", "é\xFF", "\xFFé"}

// wrongNames are no names.
var wrongNames = []string{"", "1", "0a", "12", "-", "a-b", "a.b", "a b", " a", "a ", "\ta", "a\n", "\x00", "é", "aé", "a\xFF", "a:", "a=", "=", "a!", "!", "a,b", "{a", "a}", `"a"`, "a~"}

// wrongExpressions are valid, but no expressions.
var wrongExpressions = []string{"(", ")", "*", "a**", "[", "]", "[]", "[b-a]", "{", "a{17}", "a{2,1}", "a{x}", `\`, `\a`, "a|*", "(a", "a)", "+é", "?", "((a{16}){16}){2}("}

// longExpressions would make too many states.
var longExpressions = []string{strings.Repeat("a", api.MaxState+1), "((a{16}){16}){2}", "((((a{16}){16}){16}){16}){16}", "(abcdefghijklmnopqrstuvwxyz){16}", strings.Repeat("a?", 201)}

// set: the set of names and values, one behind the other.
func set(t *testing.T, l ...string) label.Set {
	t.Helper()
	var pairs []label.Pair
	for i := 0; i < len(l); i += 2 {
		pairs = append(pairs, label.Pair{Name: l[i], Value: l[i+1]})
	}
	s, e := label.Of(pairs...)
	if e != api.OK {
		t.Fatalf("label.Of(%q) is %d", l, e)
	}
	return s
}

// list: of matchers that are right.
func list(t *testing.T, l ...Matcher) *List {
	t.Helper()
	got, e := Of(l...)
	if e != api.OK {
		t.Fatalf("Of(%+v) is %d", l, e)
	}
	expectList(t, got, l...)
	return got
}

// expectList: l has just these matchers, in this order.
func expectList(t *testing.T, l *List, want ...Matcher) {
	t.Helper()
	if got := l.All(); !slices.Equal(got, want) || l.Len() != len(want) {
		t.Errorf("the list has %+v, %d, not %+v", got, l.Len(), want)
	}
}

func expectNoOf(t *testing.T, want api.Errno, l ...Matcher) {
	t.Helper()
	if got, e := Of(l...); got != nil || e != want {
		t.Errorf("Of(%+v) is %.200q, %d, not %d alone", l, got, e, want)
	}
}

func expectHas(t *testing.T, l *List, want bool, sets ...label.Set) {
	t.Helper()
	for _, s := range sets {
		if l.Has(s) != want {
			t.Errorf("Has(%s) of %s is not %v", s, l, want)
		}
	}
}

// P17.1: Of without matchers, of one of each kind, of some.
func TestOf(t *testing.T) {
	list(t)
	if got, e := Of([]Matcher{}...); got == nil || got.Len() != 0 || e != api.OK {
		t.Errorf("Of an empty list is %s, %d", got, e)
	}
	kinds := []Matcher{{"a", Equal, "1"}, {"b", NotEqual, "2"}, {"c", Like, "x.*"}, {"d", NotLike, "y|z"}}
	for _, m := range kinds {
		list(t, m)
		list(t, m, m)
	}
	list(t, kinds...)
	slices.Reverse(kinds)
	list(t, kinds...)
	if Equal != 1 || NotEqual != 2 || Like != 3 || NotLike != 4 {
		t.Error("the kinds have other numbers")
	}
}

// P17.1: values that are valid, or empty, of each kind; what is no expression
// is right where none is asked for.
func TestRightValues(t *testing.T) {
	for kind := Equal; kind <= NotLike; kind++ {
		for _, v := range []string{"", "a", " ", `\"`, "é", "€", "😀", "\x00", "\n", "\x7F", "\U0010FFFF", ",", "a,b", strings.Repeat("é", api.MaxState)} {
			list(t, Matcher{"a", kind, v})
		}
	}
	for _, v := range slices.Concat(wrongExpressions, longExpressions, []string{"{}", "(((((((((((((((((a)))))))))))))))))"}) {
		list(t, Matcher{"a", Equal, v})
		list(t, Matcher{"a", NotEqual, v})
	}
	for _, v := range []string{strings.Repeat("a", api.MaxState), "(a{16}){16}", "((((((((((((((((a))))))))))))))))", `\{\}`, "[^a]?"} {
		list(t, Matcher{"_", Like, v})
		list(t, Matcher{"_9Z", NotLike, v})
	}
}

// P17.1: ErrForm of what is no matcher, of each kind.
func TestOfWrongMatchers(t *testing.T) {
	for kind := Equal; kind <= NotLike; kind++ {
		for _, name := range wrongNames {
			expectNoOf(t, api.ErrForm, Matcher{name, kind, "a"})
		}
		for _, v := range wrongValues {
			expectNoOf(t, api.ErrForm, Matcher{"a", kind, v})
		}
	}
	for _, kind := range []int{0, -1, 5, 6, -4, 1 << 32, 1<<32 + 1, math.MaxInt, math.MinInt} {
		expectNoOf(t, api.ErrForm, Matcher{"a", kind, "1"})
		expectNoOf(t, api.ErrForm, Matcher{"a", kind, ""})
		expectNoOf(t, api.ErrForm, Matcher{"a", kind, longExpressions[0]})
	}
	expectNoOf(t, api.ErrForm, Matcher{})
}

// P17.1: ErrForm of what is no expression, ErrLong of one that is too long;
// ErrForm, if that is not the only thing that is wrong.
func TestOfWrongExpressions(t *testing.T) {
	for kind := Like; kind <= NotLike; kind++ {
		for _, v := range wrongExpressions {
			expectNoOf(t, api.ErrForm, Matcher{"a", kind, v})
		}
		for _, v := range longExpressions {
			expectNoOf(t, api.ErrLong, Matcher{"a", kind, v})
			expectNoOf(t, api.ErrForm, Matcher{"1", kind, v})
			expectNoOf(t, api.ErrForm, Matcher{"a", kind, v + "\xFF"})
		}
	}
}

// P17.1: the first one that is wrong is told of, wherever it stands.
func TestOfTwoWrongMatchers(t *testing.T) {
	right := Matcher{"a", Like, "a"}
	long := Matcher{"a", Like, longExpressions[0]}
	for _, wrong := range []Matcher{{"1", Equal, "a"}, {"a", 0, "a"}, {"a", Equal, "\xFF"}, {"a", NotLike, "("}} {
		expectNoOf(t, api.ErrForm, wrong, long)
		expectNoOf(t, api.ErrLong, long, wrong)
		expectNoOf(t, api.ErrForm, right, wrong, right, long)
		expectNoOf(t, api.ErrLong, right, right, long, wrong, right)
		expectNoOf(t, api.ErrForm, right, right, wrong)
		expectNoOf(t, api.ErrForm, wrong, right)
	}
	expectNoOf(t, api.ErrLong, right, long)
	expectNoOf(t, api.ErrLong, long, right)
}

// P17.1: 32 matchers are taken; of 33 ErrFull, ahead of what is wrong with one.
func TestOfMany(t *testing.T) {
	var l []Matcher
	for i := range 32 {
		l = append(l, Matcher{"a" + strconv.Itoa(i), 1 + i%4, strconv.Itoa(i)})
	}
	got := list(t, l...)
	if text := got.String(); strings.Count(text, ",") != 31 {
		t.Error(text)
	}
	expectNoOf(t, api.ErrForm, append(slices.Clone(l[:31]), Matcher{})...)
	for _, m := range []Matcher{l[0], {}, {"a", Like, "("}, {"a", Like, longExpressions[0]}} {
		expectNoOf(t, api.ErrFull, append(slices.Clone(l), m)...)
		expectNoOf(t, api.ErrFull, append([]Matcher{m}, l...)...)
	}
	expectNoOf(t, api.ErrFull, make([]Matcher, 33)...)
	expectNoOf(t, api.ErrFull, make([]Matcher, 100000)...)
	expectNoOf(t, api.ErrForm, make([]Matcher, 32)...)
}

// P17.1, rules 4 and 5: what a caller does to a list, its own or an answer, is
// seen in no other one.
func TestListsShareNothing(t *testing.T) {
	want := []Matcher{{"a", Equal, "1"}, {"b", Like, "x*"}, {"c", NotLike, "y"}}
	mine := slices.Clone(want)
	l, _ := Of(mine...)
	if !slices.Equal(mine, want) {
		t.Errorf("the caller's list became %+v", mine)
	}
	spoil := func(l []Matcher) {
		for i := range l {
			l[i] = Matcher{"spoilt", NotEqual, "spoilt"}
		}
	}
	spoil(mine)
	expectList(t, l, want...)
	got, other := l.All(), l.All()
	_ = append(got[:1], Matcher{"spoilt", NotEqual, "spoilt"})
	spoil(got)
	_ = append(got, Matcher{"spoilt", NotEqual, "spoilt"})
	if !slices.Equal(other, want) {
		t.Errorf("another answer became %+v", other)
	}
	expectList(t, l, want...)
	if l.String() != `{a="1",b=~"x*",c!~"y"}` {
		t.Error(l)
	}
	expectHas(t, l, true, set(t, "a", "1", "b", "xx"))
	expectHas(t, l, false, set(t, "a", "spoilt"), set(t, "spoilt", "1"))
}

// P17.1: Has of one matcher of each kind, at a name with that value, with
// another one, and that is not there.
func TestHas(t *testing.T) {
	that, other, none := set(t, "a", "1", "b", "2"), set(t, "a", "2", "b", "1"), set(t, "b", "1")
	for _, k := range []struct {
		kind              int
		value             string
		that, other, none bool
	}{
		{Equal, "1", true, false, false},
		{NotEqual, "1", false, true, true},
		{Like, "1", true, false, false},
		{NotLike, "1", false, true, true},
		// An empty value is that of a name that is not there.
		{Equal, "", false, false, true},
		{NotEqual, "", true, true, false},
		{Like, "", false, false, true},
		{NotLike, "", true, true, false},
		// Expressions that take the empty text, or both values, or none.
		{Like, "1?", true, false, true},
		{NotLike, "1?", false, true, false},
		{Like, ".*", true, true, true},
		{NotLike, ".*", false, false, false},
		{Like, ".+", true, true, false},
		{NotLike, ".+", false, false, true},
		{Like, "[^12]", false, false, false},
		{NotLike, "[^12]", true, true, true},
		{Like, "|2", false, true, true},
		// What stands in an expression for more than itself does so there
		// alone.
		{Equal, ".", false, false, false},
		{NotEqual, ".", true, true, true},
	} {
		l := list(t, Matcher{"a", k.kind, k.value})
		expectHas(t, l, k.that, that)
		expectHas(t, l, k.other, other)
		expectHas(t, l, k.none, none, label.Set{})
	}
}

// P17.1: an expression must take all of a value, not some of it.
func TestHasOfWholeValues(t *testing.T) {
	for _, k := range []struct {
		x      string
		takes  []string
		others []string
	}{
		{"ab", []string{"ab"}, []string{"a", "b", "abc", "cab", "abab", "AB", " ab", "ab\n"}},
		{"a|bc", []string{"a", "bc"}, []string{"abc", "ac", "ab", "b", "abbc"}},
		{"a*", []string{"a", "aaaa"}, []string{"ab", "ba", "aabaa"}},
		{"x.*", []string{"x", "xy", "x\n", "xé€😀"}, []string{"yx", "X", " x"}},
		{".", []string{"a", "é", "€", "😀", "\n", "\x00"}, []string{"aa", "éa"}},
		{`\d{2,3}`, []string{"12", "123"}, []string{"1", "1234", "12a", "a12"}},
	} {
		like, not := list(t, Matcher{"n", Like, k.x}), list(t, Matcher{"n", NotLike, k.x})
		for _, v := range k.takes {
			expectHas(t, like, true, set(t, "n", v))
			expectHas(t, not, false, set(t, "n", v))
		}
		for _, v := range k.others {
			expectHas(t, like, false, set(t, "n", v))
			expectHas(t, not, true, set(t, "n", v))
		}
	}
	// Bytes count as they stand.
	l := list(t, Matcher{"n", Equal, "é\n "})
	expectHas(t, l, true, set(t, "n", "é\n "))
	expectHas(t, l, false, set(t, "n", "é\n"), set(t, "n", "e\n "), set(t, "n", "É\n "), set(t, "N", "é\n "))
}

// P17.1: all of several must fit; the empty list fits all; example 1.
func TestHasOfSeveral(t *testing.T) {
	l := list(t, Matcher{"a", Equal, "1"}, Matcher{"b", NotLike, "x.*"})
	expectHas(t, l, true, set(t, "a", "1"), set(t, "a", "1", "b", "y"), set(t, "a", "1", "b", "yx", "c", "x"))
	expectHas(t, l, false, set(t, "a", "1", "b", "xy"), set(t, "b", "xy"), set(t, "b", "y"), set(t, "a", "2"), label.Set{})
	matchers := []Matcher{{"a", Equal, "1"}, {"b", NotEqual, "1"}, {"c", Like, "1+"}, {"d", NotLike, "1+"}}
	l = list(t, matchers...)
	expectHas(t, l, true, set(t, "a", "1", "b", "2", "c", "11", "d", "2"), set(t, "a", "1", "c", "1"), set(t, "a", "1", "c", "1", "e", "1"))
	// Just one of them does not fit, whichever.
	expectHas(t, l, false, set(t, "a", "2", "c", "1"), set(t, "a", "1", "b", "1", "c", "1"), set(t, "a", "1", "c", "2"), set(t, "a", "1", "c", "1", "d", "1"))
	// Two of one name.
	l = list(t, Matcher{"a", Like, "x.*"}, Matcher{"a", NotEqual, "xy"}, Matcher{"a", NotLike, ".*z"})
	expectHas(t, l, true, set(t, "a", "x"), set(t, "a", "xyx"))
	expectHas(t, l, false, set(t, "a", "xy"), set(t, "a", "xz"), set(t, "a", "y"), set(t, "b", "x"))
	expectHas(t, list(t), true, label.Set{}, set(t), set(t, "a", "1"), set(t, "a", "1", "b", "2"))
	// What was asked ahead changes nothing.
	for range 3 {
		expectHas(t, l, true, set(t, "a", "xyx"))
		expectHas(t, l, false, set(t, "a", "xyz"))
	}
}

// P17.3: Equal and NotEqual, Like and NotLike are never both, and always one.
func TestOpposites(t *testing.T) {
	texts := []string{"", "a", "b", "aa", "ab", "a*", ".", ".*", "é", "é?", "a|b", "[ab]+", `\w`, "\n", "a{0}"}
	sets := []label.Set{{}, set(t, "m", "a")}
	for _, v := range texts[1:] {
		sets = append(sets, set(t, "n", v), set(t, "m", "a", "n", v), set(t, "m", v))
	}
	for _, v := range texts {
		for _, s := range sets {
			for kind := Equal; kind <= Like; kind += 2 {
				is, not := list(t, Matcher{"n", kind, v}), list(t, Matcher{"n", kind + 1, v})
				if is.Has(s) == not.Has(s) {
					t.Errorf("%s and %s are both %v of %s", is, not, is.Has(s), s)
				}
				expectHas(t, list(t, Matcher{"n", kind, v}, Matcher{"n", kind + 1, v}), false, s)
			}
			if equal := list(t, Matcher{"n", Equal, v}); equal.Has(s) != (s.Get("n") == v) {
				t.Errorf("Has(%s) of %s is %v", s, equal, equal.Has(s))
			}
		}
	}
}

// Of a nil list, and of one that was not made: as of the empty one.
func TestNilList(t *testing.T) {
	for _, l := range []*List{nil, {}, new(List)} {
		if l.String() != "{}" || l.Len() != 0 || len(l.All()) != 0 {
			t.Errorf("%q, %d, %+v", l.String(), l.Len(), l.All())
		}
		expectHas(t, l, true, label.Set{}, set(t, "a", "1"))
	}
}
