package pct

import (
	"math/rand"
	"net/url"
	"slices"
	"strings"
	"testing"

	"larum/api"
)

const (
	plainBytes = "abcdefghijklmnopqrstuvwxyzABCDEFGHIJKLMNOPQRSTUVWXYZ0123456789-._~"
	bySixteen  = "0123456789abcdefABCDEF"
)

// every is all 256 bytes, in order.
func every() string {
	b := make([]byte, 256)
	for i := range b {
		b[i] = byte(i)
	}
	return string(b)
}

// wrongSigns are texts in which a % begins no sign by sixteen.
var wrongSigns = []string{
	"%", "%4", "%g", "%4g", "%g4", "%%", "%%%", "%%41", "%4%41", "% 1", "%1 ", "%+1", "%-1", "%1+", "%0x41", "%x41", "%é", "%4é", "%\x00\x00", "%4\xFF",
	"%u0041", "%G0", "%0G", "%/0", "%:0", "%@0", "%`0", "%0/", "%0:", "%0@", "%0`",
}

func expectDecode(t *testing.T, s string, plus bool, want string) {
	t.Helper()
	if got, e := Decode(s, plus); got != want || e != api.OK {
		t.Errorf("Decode(%q, %v) is %q, %d, not %q", s, plus, got, e, want)
	}
}

func expectNoDecode(t *testing.T, s string) {
	t.Helper()
	for _, plus := range []bool{false, true} {
		if got, e := Decode(s, plus); got != "" || e != api.ErrForm {
			t.Errorf("Decode(%q, %v) is %q, %d, not ErrForm alone", s, plus, got, e)
		}
	}
}

// P8.1: Decode of texts without a sign, with and without plus.
func TestDecodeOfPlainTexts(t *testing.T) {
	for _, k := range []struct{ s, without, with string }{
		{"", "", ""},
		{"a", "a", "a"},
		{"a/b?c=d&e#f", "a/b?c=d&e#f", "a/b?c=d&e#f"},
		{"é😀\x00\xFF\xC3", "é😀\x00\xFF\xC3", "é😀\x00\xFF\xC3"},
		{"+", "+", " "},
		{"++", "++", "  "},
		{"a+b +c", "a+b +c", "a b  c"},
		{"%2B+%2b", "+++", "+ +"},
		{"%20+", " +", "  "},
		{"+%2541", "+%41", " %41"},
		{"%25", "%", "%"},
		{"%2525", "%25", "%25"},
		{"%41%4a%4A", "AJJ", "AJJ"},
		{"%fF%Ff%ff%FF", "\xFF\xFF\xFF\xFF", "\xFF\xFF\xFF\xFF"},
		{"%00%0a%0A", "\x00\n\n", "\x00\n\n"},
		{"%411", "A1", "A1"},
		{"1%41", "1A", "1A"},
		{"%C3%A9", "é", "é"},
		{"%C3", "\xC3", "\xC3"},
	} {
		expectDecode(t, k.s, false, k.without)
		expectDecode(t, k.s, true, k.with)
	}
}

// P8.1: all bytes that stand for themselves, and each one with plus.
func TestDecodeOfEveryByte(t *testing.T) {
	for i := range 256 {
		s := string([]byte{byte(i)})
		switch s {
		case "%":
			expectNoDecode(t, s)
			continue
		case "+":
			expectDecode(t, s, true, " ")
		default:
			expectDecode(t, s, true, s)
		}
		expectDecode(t, s, false, s)
	}
}

// P8.1: a % with each two bytes behind it.
func TestDecodeOfEverySign(t *testing.T) {
	right := 0
	for i := range 256 {
		for j := range 256 {
			a, b := byte(i), byte(j)
			s := string([]byte{'%', a, b})
			x, y := strings.IndexByte(bySixteen, a), strings.IndexByte(bySixteen, b)
			if x < 0 || y < 0 {
				expectNoDecode(t, s)
				continue
			}
			right++
			want := string([]byte{byte(digitOf(x)<<4 | digitOf(y))})
			expectDecode(t, s, false, want)
			expectDecode(t, "x"+s+s+"1", true, "x"+want+want+"1")
		}
	}
	if right != 22*22 {
		t.Errorf("%d signs were right", right)
	}
}

// digitOf: which number the digit at that place of bySixteen stands for.
func digitOf(at int) int {
	if at >= 16 {
		at -= 6
	}
	return at
}

// P8.1: wrong signs, at the beginning, within, and at the end.
func TestDecodeOfWrongSigns(t *testing.T) {
	for _, s := range wrongSigns {
		for _, ahead := range []string{"", "a", "+", "%41", "é", strings.Repeat("a", 100)} {
			expectNoDecode(t, ahead+s)
			expectNoDecode(t, ahead+s+"?")
			expectNoDecode(t, ahead+"%"+s)
		}
	}
	expectNoDecode(t, "%41%")
	expectNoDecode(t, "%41%4")
}

// P8.1: Encode of each byte.
func TestEncodeOfEveryByte(t *testing.T) {
	const great = "0123456789ABCDEF"
	for i := range 256 {
		c := byte(i)
		want := string([]byte{'%', great[i/16], great[i%16]})
		if strings.IndexByte(plainBytes, c) >= 0 {
			want = string([]byte{c})
		}
		if got := Encode(string([]byte{c})); got != want {
			t.Errorf("Encode of byte %d is %q, not %q", i, got, want)
		}
	}
}

// P8.1: Encode of texts.
func TestEncode(t *testing.T) {
	for _, k := range []struct{ s, want string }{
		{"", ""},
		{plainBytes, plainBytes},
		{"a b", "a%20b"},
		{"a+b", "a%2Bb"},
		{"a/b?c=d&e", "a%2Fb%3Fc%3Dd%26e"},
		{"100%", "100%25"},
		{"%41", "%2541"},
		{"é", "%C3%A9"},
		{"😀", "%F0%9F%98%80"},
		{"\xFF\x00\n", "%FF%00%0A"},
		{"*'()!", "%2A%27%28%29%21"},
	} {
		if got := Encode(k.s); got != k.want {
			t.Errorf("Encode(%q) is %q, not %q", k.s, got, k.want)
		}
	}
}

// somewhat: a text by chance, of bytes that mean something in a target.
func somewhat(r *rand.Rand) string {
	const bytes = "ab09%%%++/?=&#. \x00\x7f\xC3\xA9\xFF4Ff"
	b := make([]byte, r.Intn(8))
	for i := range b {
		b[i] = bytes[r.Intn(len(bytes))]
	}
	return string(b)
}

// P8.1: Decode as the library does it.
func TestDecodeAsElsewhere(t *testing.T) {
	r := rand.New(rand.NewSource(8))
	for range 20000 {
		s := somewhat(r)
		for plus, decode := range map[bool]func(string) (string, error){false: url.PathUnescape, true: url.QueryUnescape} {
			want, err := decode(s)
			if err != nil {
				expectNoDecode(t, s)
				continue
			}
			expectDecode(t, s, plus, want)
		}
	}
}

// P8.3: Decode of Encode is the text.
func TestDecodeOfEncode(t *testing.T) {
	r := rand.New(rand.NewSource(9))
	texts := append([]string{every(), strings.Repeat(every(), 100)}, wrongSigns...)
	for range 5000 {
		texts = append(texts, somewhat(r))
	}
	for _, s := range texts {
		for _, plus := range []bool{false, true} {
			expectDecode(t, Encode(s), plus, s)
		}
	}
}

func expectQuery(t *testing.T, s string, want ...Pair) {
	t.Helper()
	if got, e := Query(s); !slices.Equal(got, want) || e != api.OK {
		t.Errorf("Query(%q) is %q, %d, not %q", s, got, e, want)
	}
	for _, path := range []string{"/", "/a", "/a/"} {
		_, got, e := Split(path + "?" + s)
		if !slices.Equal(got, want) || e != api.OK {
			t.Errorf("Split of %s? and %q is %q, %d, not %q", path, s, got, e, want)
		}
	}
}

// P8.2: Query.
func TestQuery(t *testing.T) {
	expectQuery(t, "")
	expectQuery(t, "&")
	expectQuery(t, "&&&")
	expectQuery(t, "a", Pair{"a", ""})
	expectQuery(t, "a=", Pair{"a", ""})
	expectQuery(t, "a=1", Pair{"a", "1"})
	expectQuery(t, "a=1=2", Pair{"a", "1=2"})
	expectQuery(t, "a==", Pair{"a", "="})
	expectQuery(t, "=", Pair{"", ""})
	expectQuery(t, "=z", Pair{"", "z"})
	expectQuery(t, "==", Pair{"", "="})
	expectQuery(t, "a=1&b=2", Pair{"a", "1"}, Pair{"b", "2"})
	expectQuery(t, "&a=1&&b&", Pair{"a", "1"}, Pair{"b", ""})
	expectQuery(t, "b=2&a=1&b=1", Pair{"b", "2"}, Pair{"a", "1"}, Pair{"b", "1"})
	expectQuery(t, "a=1&a=1", Pair{"a", "1"}, Pair{"a", "1"})
	expectQuery(t, "x=%2B+1&&y=&=z", Pair{"x", "+ 1"}, Pair{"y", ""}, Pair{"", "z"})
	expectQuery(t, "a+b=c+d", Pair{"a b", "c d"})
	expectQuery(t, "+=+", Pair{" ", " "})
	expectQuery(t, "a%3Db=c%3Dd", Pair{"a=b", "c=d"})
	expectQuery(t, "a%26b=c%26d&e", Pair{"a&b", "c&d"}, Pair{"e", ""})
	expectQuery(t, "a%253D=1", Pair{"a%3D", "1"})
	expectQuery(t, "a;b=1;c", Pair{"a;b", "1;c"})
	expectQuery(t, "a?b=/?c", Pair{"a?b", "/?c"})
	expectQuery(t, " a = b ", Pair{" a ", " b "})
	expectQuery(t, "%C3%A9=\xFF", Pair{"é", "\xFF"})
	expectQuery(t, "a#b=#", Pair{"a#b", "#"})
}

// P8.2: wrong signs in a name and in a value, wherever the pair stands.
func TestQueryOfWrongSigns(t *testing.T) {
	for _, s := range wrongSigns {
		for _, part := range []string{s, s + "=1", "a=" + s, "a=1=" + s, s + "=" + s, "=" + s} {
			for _, q := range []string{part, "x=1&" + part, part + "&x=1", "x=1&" + part + "&y", "&" + part + "&"} {
				if l, e := Query(q); l != nil || e != api.ErrForm {
					t.Errorf("Query(%q) is %q, %d, not ErrForm alone", q, l, e)
				}
				expectNoSplit(t, "/?"+q)
				expectNoSplit(t, "/a/b?"+q)
			}
		}
	}
	// A = and a & end a part, whatever stands ahead of them.
	for _, q := range []string{"%=41", "%4=1", "a=%&41", "a=%4&1", "%&41"} {
		if l, e := Query(q); l != nil || e != api.ErrForm {
			t.Errorf("Query(%q) is %q, %d", q, l, e)
		}
	}
}

func expectSplit(t *testing.T, s string, parts []string, l ...Pair) {
	t.Helper()
	if p, q, e := Split(s); !slices.Equal(p, parts) || !slices.Equal(q, l) || e != api.OK {
		t.Errorf("Split(%q) is %q, %q, %d, not %q, %q", s, p, q, e, parts, l)
	}
}

func expectNoSplit(t *testing.T, s string) {
	t.Helper()
	if p, l, e := Split(s); p != nil || l != nil || e != api.ErrForm {
		t.Errorf("Split(%q) is %q, %q, %d, not ErrForm alone", s, p, l, e)
	}
}

// P8.2: Split of targets.
func TestSplit(t *testing.T) {
	expectSplit(t, "/", []string{""})
	expectSplit(t, "//", []string{"", ""})
	expectSplit(t, "///", []string{"", "", ""})
	expectSplit(t, "/a", []string{"a"})
	expectSplit(t, "/a/", []string{"a", ""})
	expectSplit(t, "//a", []string{"", "a"})
	expectSplit(t, "/a/b/c", []string{"a", "b", "c"})
	expectSplit(t, "/a%2Fb", []string{"a/b"})
	expectSplit(t, "/a%2fb/%2F", []string{"a/b", "/"})
	expectSplit(t, "/a%3Fb", []string{"a?b"})
	expectSplit(t, "/a+b", []string{"a+b"})
	expectSplit(t, "/a%20b//c", []string{"a b", "", "c"})
	expectSplit(t, "/%2525", []string{"%25"})
	expectSplit(t, "/a=1&b=2", []string{"a=1&b=2"})
	expectSplit(t, "/./..", []string{".", ".."})
	expectSplit(t, "/é\xFF\x00", []string{"é\xFF\x00"})
	expectSplit(t, "/a#b", []string{"a#b"})
	expectSplit(t, "/?", []string{""})
	expectSplit(t, "/?a", []string{""}, Pair{"a", ""})
	expectSplit(t, "/?a=/b", []string{""}, Pair{"a", "/b"})
	expectSplit(t, "/a?", []string{"a"})
	expectSplit(t, "/a?&", []string{"a"})
	expectSplit(t, "/a/?b", []string{"a", ""}, Pair{"b", ""})
	expectSplit(t, "/??", []string{""}, Pair{"?", ""})
	expectSplit(t, "/a?b?c=d?e", []string{"a"}, Pair{"b?c", "d?e"})
	expectSplit(t, "/a?b/c=d/e", []string{"a"}, Pair{"b/c", "d/e"})
	expectSplit(t, "/a+b?a+b=a+b", []string{"a+b"}, Pair{"a b", "a b"})
	expectSplit(t, "/a%2Fb/?x=1+2&y", []string{"a/b", ""}, Pair{"x", "1 2"}, Pair{"y", ""})
}

// P8.2: targets that do not begin with /, and wrong signs.
func TestSplitOfWrongTargets(t *testing.T) {
	for _, s := range []string{"", "a", "a/b", "?", "?a=1", " /", "%2F", "%2Fa", "*", "http://a/b", "\\", "\x00/", "é/", "+/"} {
		expectNoSplit(t, s)
		expectNoSplit(t, s+"?%")
	}
	for _, s := range wrongSigns {
		for _, target := range []string{"/" + s, "/" + s + "/a", "/a/" + s, "/a/" + s + "/b", "/" + s + "?", "/" + s + "?a=1", "/" + s + "?" + s, s} {
			expectNoSplit(t, target)
		}
	}
	// A / and a ? end a part, whatever stands ahead of them.
	for _, s := range []string{"/%/41", "/%4/1", "/%?41", "/%4?1"} {
		expectNoSplit(t, s)
	}
}

// P8.2: Find.
func TestFind(t *testing.T) {
	l := []Pair{{"a", "1"}, {"b", "2"}, {"a", "3"}, {"", "4"}, {"A", "5"}, {"a", ""}, {"a", "1"}, {"é", "6"}}
	for _, k := range []struct {
		name string
		want []string
	}{
		{"a", []string{"1", "3", "", "1"}},
		{"b", []string{"2"}},
		{"", []string{"4"}},
		{"A", []string{"5"}},
		{"é", []string{"6"}},
		{"c", nil},
		{"a ", nil},
		{"1", nil},
		{"%61", nil},
	} {
		if got := Find(l, k.name); !slices.Equal(got, k.want) {
			t.Errorf("Find of %q is %q, not %q", k.name, got, k.want)
		}
	}
	for _, name := range []string{"", "a"} {
		if got := Find(nil, name); len(got) != 0 {
			t.Errorf("Find(nil, %q) is %q", name, got)
		}
		if got := Find([]Pair{}, name); len(got) != 0 {
			t.Errorf("Find of no pairs, %q, is %q", name, got)
		}
	}
}

// P8.2: Target.
func TestTarget(t *testing.T) {
	for _, k := range []struct {
		parts []string
		l     []Pair
		want  string
	}{
		{nil, nil, "/"},
		{[]string{}, []Pair{}, "/"},
		{[]string{""}, nil, "/"},
		{[]string{"", ""}, nil, "//"},
		{[]string{"a"}, nil, "/a"},
		{[]string{"a", ""}, nil, "/a/"},
		{[]string{"", "a"}, nil, "//a"},
		{[]string{"a", "b", "c"}, nil, "/a/b/c"},
		{[]string{"a/b", "?", "c d", "+"}, nil, "/a%2Fb/%3F/c%20d/%2B"},
		{nil, []Pair{{"a", "1"}}, "/?a=1"},
		{[]string{"a"}, []Pair{{"b", ""}}, "/a?b="},
		{[]string{"a"}, []Pair{{"", ""}}, "/a?="},
		{[]string{"a"}, []Pair{{"", "b"}}, "/a?=b"},
		{[]string{""}, []Pair{{"b", "2"}, {"a", "1"}, {"b", "2"}}, "/?b=2&a=1&b=2"},
		{[]string{"a/b", ""}, []Pair{{"é", "1&"}}, "/a%2Fb/?%C3%A9=1%26"},
		{[]string{"%"}, []Pair{{"=", "= +"}}, "/%25?%3D=%3D%20%2B"},
	} {
		if got := Target(k.parts, k.l...); got != k.want {
			t.Errorf("Target(%q, %q) is %q, not %q", k.parts, k.l, got, k.want)
		}
	}
}

// P8.3: Split of Target is the parts and pairs.
func TestSplitOfTarget(t *testing.T) {
	r := rand.New(rand.NewSource(10))
	for range 10000 {
		parts := make([]string, 1+r.Intn(4))
		for i := range parts {
			parts[i] = somewhat(r)
		}
		l := make([]Pair, r.Intn(4))
		for i := range l {
			l[i] = Pair{somewhat(r), somewhat(r)}
		}
		expectSplit(t, Target(parts, l...), parts, l...)
	}
	expectSplit(t, Target([]string{every(), ""}, Pair{every(), every()}), []string{every(), ""}, Pair{every(), every()})
	// Without a part it is as with an empty one.
	expectSplit(t, Target(nil, Pair{"a", "1"}), []string{""}, Pair{"a", "1"})
}

// Rules 4 and 5: nothing that is handed in is changed, and no answer is seen
// in another one.
func TestAnswersShareNothing(t *testing.T) {
	const target = "/a%20b/c?x=1+2&y"
	parts, l, _ := Split(target)
	pairs, _ := Query("x=1&y")
	parts[0], l[0], pairs[0] = "spoilt", Pair{"spoilt", ""}, Pair{"spoilt", ""}
	_, _, _ = append(parts[:1], "spoilt"), append(l[:1], Pair{}), append(pairs[:1], Pair{})
	expectSplit(t, target, []string{"a b", "c"}, Pair{"x", "1 2"}, Pair{"y", ""})
	expectQuery(t, "x=1&y", Pair{"x", "1"}, Pair{"y", ""})

	in := []Pair{{"a b", "1"}, {"c", "2"}, {"a b", "3"}, {"room", ""}}
	before := slices.Clone(in)
	values := Find(in[:3], "a b")
	values[0] = "spoilt"
	_ = append(values, "spoilt")
	if got := Find(in[:3], "a b"); !slices.Equal(got, []string{"1", "3"}) {
		t.Errorf("the second answer is %q", got)
	}
	names := []string{"a b", "é", "room"}
	Target(names[:2], in[:3]...)
	if !slices.Equal(in, before) || !slices.Equal(names, []string{"a b", "é", "room"}) {
		t.Errorf("they became %q, %q", in, names)
	}
}

// P1: long texts end soon.
func TestLongTexts(t *testing.T) {
	const long = 1 << 20
	expectDecode(t, strings.Repeat("%41", long), false, strings.Repeat("A", long))
	expectNoDecode(t, strings.Repeat("%41", long)+"%")
	if p, l, e := Split(strings.Repeat("/", long) + "?" + strings.Repeat("&a", long)); len(p) != long || len(l) != long || e != api.OK {
		t.Error(len(p), len(l), e)
	}
	if got := Target(make([]string, long), make([]Pair, long)...); len(got) != 3*long {
		t.Error(len(got))
	}
}

// P1: no call panics, whatever the bytes; what Split takes Target gives back.
func FuzzSplit(f *testing.F) {
	for _, s := range []string{"", "/", "/a%2Fb/?x=1+2&y", "/%", "/%4?%", "a", "/??=&=&"} {
		f.Add(s)
	}
	f.Fuzz(func(t *testing.T, s string) {
		parts, l, e := Split(s)
		if e != api.OK {
			if parts != nil || l != nil || e != api.ErrForm {
				t.Errorf("Split(%q) is %q, %q, %d", s, parts, l, e)
			}
			return
		}
		if len(parts) == 0 {
			t.Errorf("Split(%q) has no part", s)
		}
		expectSplit(t, Target(parts, l...), parts, l...)
	})
}
