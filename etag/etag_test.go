package etag

import (
	"math"
	"math/rand"
	"regexp"
	"slices"
	"strings"
	"testing"

	"larum/api"
)

// isMarkByte: as the chapter names the bytes.
func isMarkByte(c int) bool { return c == 0x21 || 0x23 <= c && c <= 0x7E || 0x80 <= c && c <= 0xFF }

// markBytes: all of a mark's bytes.
func markBytes() string {
	var b []byte
	for c := range 256 {
		if isMarkByte(c) {
			b = append(b, byte(c))
		}
	}
	return string(b)
}

// wrongMarks are texts that are no marks.
var wrongMarks = []string{
	"", "a", "W/", "W", "/", `"`, `""a`, `"""`, `""""`, `"a`, `a"`, `"a""`, `""a"`, `"a" `, ` "a"`, "\t\"a\"", "\"a\"\t", `"a",`, `,"a"`,
	`"a"x`, `x"a"`, `"a" "b"`, `"a""b"`, `"a","b"`, `"a b"`, "\"a\tb\"", "\"a\nb\"", "\"\x7f\"", "\"\x00\"", `" "`,
	`w/"a"`, `W"a"`, `W/a`, `W/"a`, `W/"`, `W /"a"`, `W/ "a"`, `W/W/"a"`, `/W"a"`, `"W/a`, `W/"a"x`, `W/"a" `, ` W/"a"`, `W\"a"`, "'a'", `*`, `"a\"b"`,
}

func expectOne(t *testing.T, s string, want Tag) {
	t.Helper()
	if got, e := One(s); got != want || e != api.OK {
		t.Errorf("One(%q) is %+v, %d, not %+v", s, got, e, want)
	}
}

func expectNoOne(t *testing.T, s string) {
	t.Helper()
	if got, e := One(s); got != (Tag{}) || e != api.ErrForm {
		t.Errorf("One(%q) is %+v, %d, not ErrForm alone", s, got, e)
	}
}

func expectList(t *testing.T, s string, want ...Tag) {
	t.Helper()
	if got, e := Parse(s); got.Any || !slices.Equal(got.Tags, want) || e != api.OK {
		t.Errorf("Parse(%q) is %+v, %d, not %+v", s, got, e, want)
	}
}

func expectAny(t *testing.T, s string) {
	t.Helper()
	if got, e := Parse(s); !got.Any || len(got.Tags) != 0 || e != api.OK {
		t.Errorf("Parse(%q) is %+v, %d, not any", s, got, e)
	}
}

func expectNoList(t *testing.T, s string) {
	t.Helper()
	if got, e := Parse(s); got.Any || got.Tags != nil || e != api.ErrForm {
		t.Errorf("Parse(%q) is %+v, %d, not ErrForm alone", s, got, e)
	}
}

// P9.1: Print of ordinary marks.
func TestPrint(t *testing.T) {
	for _, k := range []struct {
		t    Tag
		want string
	}{
		{Tag{}, `""`},
		{Tag{Weak: true}, `W/""`},
		{Tag{Text: "a"}, `"a"`},
		{Tag{Weak: true, Text: "a"}, `W/"a"`},
		{Tag{Text: "v1"}, `"v1"`},
		{Tag{Text: "a,b"}, `"a,b"`},
		{Tag{Text: "W/"}, `"W/"`},
		{Tag{Text: "*"}, `"*"`},
		{Tag{Text: `\`}, `"\"`},
		{Tag{Text: "é\xFF"}, "\"é\xFF\""},
		{Tag{Text: markBytes()}, `"` + markBytes() + `"`},
	} {
		if got, e := Print(k.t); got != k.want || e != api.OK {
			t.Errorf("Print(%+v) is %q, %d, not %q", k.t, got, e, k.want)
		}
	}
}

// P9.1: each byte in a mark, at each place, for Print, One and Parse.
func TestEveryByteInMark(t *testing.T) {
	for c := range 256 {
		for _, place := range []struct{ ahead, behind string }{{"", ""}, {"a", ""}, {"", "a"}, {"ab", "cd"}} {
			for _, isWeak := range []bool{false, true} {
				mark := Tag{isWeak, place.ahead + string([]byte{byte(c)}) + place.behind}
				s := `"` + mark.Text + `"`
				if isWeak {
					s = "W/" + s
				}
				if isMarkByte(c) {
					if got, e := Print(mark); got != s || e != api.OK {
						t.Errorf("Print(%+v) is %q, %d", mark, got, e)
					}
					expectOne(t, s, mark)
					expectList(t, s, mark)
					continue
				}
				if got, e := Print(mark); got != "" || e != api.ErrForm {
					t.Errorf("Print(%+v) is %q, %d", mark, got, e)
				}
				expectNoOne(t, s)
				expectNoList(t, s)
			}
		}
	}
}

// P9.1: each byte around a mark: none is a mark, and a list may have blanks
// and commas alone.
func TestEveryByteAroundMark(t *testing.T) {
	for c := range 256 {
		x := string([]byte{byte(c)})
		for _, s := range []string{x + `"a"`, `"a"` + x, x + `"a"` + x} {
			expectNoOne(t, s)
			if x == " " || x == "\t" || x == "," {
				expectList(t, s, Tag{Text: "a"})
			} else {
				expectNoList(t, s)
			}
		}
		if s := `W` + x + `"a"`; x == "/" {
			expectOne(t, s, Tag{true, "a"})
			expectList(t, s, Tag{true, "a"})
		} else {
			expectNoOne(t, s)
			expectNoList(t, s)
		}
	}
}

// P9.1: One.
func TestOne(t *testing.T) {
	expectOne(t, `""`, Tag{})
	expectOne(t, `W/""`, Tag{Weak: true})
	expectOne(t, `"a"`, Tag{Text: "a"})
	expectOne(t, `W/"a"`, Tag{Weak: true, Text: "a"})
	expectOne(t, `"W/a"`, Tag{Text: "W/a"})
	expectOne(t, `"a,b"`, Tag{Text: "a,b"})
	expectOne(t, `"*"`, Tag{Text: "*"})
	for _, s := range wrongMarks {
		expectNoOne(t, s)
	}
}

// P9.1: lists that are any.
func TestParseOfAny(t *testing.T) {
	for _, s := range []string{"*", " *", "* ", "\t*", "*\t", " \t * \t "} {
		expectAny(t, s)
	}
	for _, s := range []string{
		"**", "* *", "*,", ",*", ", *", "*,*", `*,"a"`, `"a",*`, `"a", *, "b"`, `* "a"`, `"a" *`, `*"a"`, `"a"*`, "W/*", "*\n", "\n*", "\u00A0*", "'*'", "*x",
	} {
		expectNoList(t, s)
	}
	expectList(t, `"*"`, Tag{Text: "*"})
}

// P9.1: lists of marks, with empty parts, blanks, commas in quotes.
func TestParse(t *testing.T) {
	a, b, w := Tag{Text: "a"}, Tag{Text: "b"}, Tag{Weak: true, Text: "a"}
	expectList(t, `"a"`, a)
	expectList(t, `W/"a"`, w)
	expectList(t, `""`, Tag{})
	expectList(t, `"",W/""`, Tag{}, Tag{Weak: true})
	expectList(t, ` "a" `, a)
	expectList(t, "\t \"a\"\t ", a)
	expectList(t, `"a","b"`, a, b)
	expectList(t, `"b","a","b"`, b, a, b)
	expectList(t, `"a" , "b"`, a, b)
	expectList(t, "\"a\"\t,\t\"b\"", a, b)
	expectList(t, `,"a"`, a)
	expectList(t, `"a",`, a)
	expectList(t, `, ,"a",	,,"b", ,`, a, b)
	expectList(t, " ,\t,W/\"a\" \t,", w)
	expectList(t, `"a",,,,,"b"`, a, b)
	expectList(t, `"v1", W/"a,b"`, Tag{Text: "v1"}, Tag{Weak: true, Text: "a,b"})
	expectList(t, `",",",,"`, Tag{Text: ","}, Tag{Text: ",,"})
	expectList(t, `"W/","W/a"`, Tag{Text: "W/"}, Tag{Text: "W/a"})
	expectList(t, "\"é\",\"\xFF\"", Tag{Text: "é"}, Tag{Text: "\xFF"})
}

// P9.1: lists without a mark, without a comma, with what is no mark.
func TestParseOfWrongLists(t *testing.T) {
	for _, s := range []string{
		"", " ", "\t", " \t ", ",", ",,", ", ,", " , \t, ", ";", "\n", `"a" "b"`, `"a""b"`, `"a"W/"b"`, `W/"a" W/"b"`, `"a";"b"`, "\"a\"\n,\"b\"", "\"a\",\n\"b\"",
		`"a","b" "c"`, `"a",b`, `b,"a"`, `"a","`, `"a","b`, `",`, `"a,b`, `a,b"`, `"a", w/"b"`, `"a",W/`, `"a",W`, `"a" x, "b"`, `"a", x "b"`, `"a" ""`,
		"\"a\",\"b c\"", "\"a\",\"\x7f\"", `"a"` + "\u00A0", "\"a\"\r\n",
	} {
		expectNoList(t, s)
	}
	for _, s := range wrongMarks {
		for _, list := range []string{s, `"x" ` + s, s + ` "x"`, `"x",` + s + `,"y"`} {
			holdToWords(t, list)
		}
	}
}

// The chapter's words, as expressions, for bytes of ASCII.
var (
	oneWords  = regexp.MustCompile(`^(?:W/)?"[!#-~]*"$`)
	anyWords  = regexp.MustCompile(`^[ \t]*\*[ \t]*$`)
	listWords = regexp.MustCompile(`^[ \t]*((?:W/)?"[!#-~]*")?[ \t]*(?:,[ \t]*((?:W/)?"[!#-~]*")?[ \t]*)*$`)
	markWords = regexp.MustCompile(`(W/)?"([!#-~]*)"`)
)

// holdToWords: One and Parse answer at s as the expressions say.
func holdToWords(t *testing.T, s string) {
	t.Helper()
	var tags []Tag
	for _, m := range markWords.FindAllStringSubmatch(s, -1) {
		tags = append(tags, Tag{m[1] != "", m[2]})
	}
	if oneWords.MatchString(s) {
		expectOne(t, s, tags[0])
	} else {
		expectNoOne(t, s)
	}
	switch {
	case anyWords.MatchString(s):
		expectAny(t, s)
	case listWords.MatchString(s) && len(tags) > 0:
		expectList(t, s, tags...)
	default:
		expectNoList(t, s)
	}
}

// P9.1: all short texts of bytes that mean something.
func TestShortTexts(t *testing.T) {
	const signs = "\",W/* a"
	texts := []string{""}
	for range 6 {
		var longer []string
		for _, s := range texts {
			holdToWords(t, s)
			for i := range len(signs) {
				longer = append(longer, s+signs[i:i+1])
			}
		}
		texts = longer
	}
	for _, s := range texts {
		holdToWords(t, s)
	}
}

// P9.1: longer texts by chance.
func TestTextsByChance(t *testing.T) {
	pieces := []string{`"`, `"`, ",", ",", " ", "\t", "W/", "w/", "*", `"a"`, `W/"b"`, `"a,b"`, `""`, "v", "\x7f", "\n"}
	r := rand.New(rand.NewSource(9))
	for range 100000 {
		var b strings.Builder
		for range r.Intn(9) {
			b.WriteString(pieces[r.Intn(len(pieces))])
		}
		holdToWords(t, b.String())
	}
}

// P9.2: Has.
func TestHas(t *testing.T) {
	a, b, weakA := Tag{Text: "a"}, Tag{Text: "b"}, Tag{Weak: true, Text: "a"}
	for _, k := range []struct {
		l    List
		t    Tag
		want bool
	}{
		{List{}, a, false},
		{List{}, Tag{}, false},
		{List{}, weakA, false},
		{List{Tags: []Tag{}}, Tag{}, false},
		{List{Tags: []Tag{{}}}, Tag{}, true},
		{List{Tags: []Tag{a}}, a, true},
		{List{Tags: []Tag{a}}, b, false},
		{List{Tags: []Tag{b, a}}, a, true},
		{List{Tags: []Tag{a, b}}, a, true},
		{List{Tags: []Tag{a, a}}, a, true},
		{List{Tags: []Tag{a}}, Tag{Text: "A"}, false},
		{List{Tags: []Tag{a}}, Tag{Text: "a "}, false},
		{List{Tags: []Tag{a}}, Tag{Text: ""}, false},
		// Weak ones: asked for, in the list, both.
		{List{Tags: []Tag{a}}, weakA, false},
		{List{Tags: []Tag{weakA}}, a, false},
		{List{Tags: []Tag{weakA}}, weakA, false},
		{List{Tags: []Tag{weakA, a}}, a, true},
		{List{Tags: []Tag{weakA, b}}, a, false},
		{List{Tags: []Tag{weakA, a}}, weakA, false},
		// Any.
		{List{Any: true}, a, true},
		{List{Any: true}, Tag{}, true},
		{List{Any: true}, weakA, false},
		{List{Any: true}, Tag{Weak: true}, false},
		{List{Any: true, Tags: []Tag{b}}, a, true},
		{List{Any: true, Tags: []Tag{weakA}}, a, true},
		{List{Any: true, Tags: []Tag{a}}, weakA, false},
		// Marks that are none as text, made by hand.
		{List{Any: true}, Tag{Text: "a b\x00"}, true},
		{List{Tags: []Tag{{Text: "\"\xFF "}}}, Tag{Text: "\"\xFF "}, true},
	} {
		if got := k.l.Has(k.t); got != k.want {
			t.Errorf("%+v has %+v: %v", k.l, k.t, got)
		}
	}
}

// P9.2: Of.
func TestOf(t *testing.T) {
	for _, k := range []struct {
		n    int64
		want string
	}{
		{0, "v0"}, {1, "v1"}, {-1, "v-1"}, {-3, "v-3"}, {10, "v10"}, {-100, "v-100"},
		{math.MaxInt64, "v9223372036854775807"}, {math.MinInt64, "v-9223372036854775808"}, {api.MaxRev, "v9007199254740991"},
	} {
		if got := Of(k.n); got != (Tag{Text: k.want}) {
			t.Errorf("Of(%d) is %+v", k.n, got)
		}
		if got, ok := Number(Tag{Text: k.want}); got != k.n || !ok {
			t.Errorf("Number of %s is %d, %v", k.want, got, ok)
		}
	}
}

// P9.2: Number of marks that are of no number.
func TestNumberOfOthers(t *testing.T) {
	for _, s := range []string{
		"", "v", "V", "V1", "1", "-1", "vv1", "v ", "v 1", " v1", "v1 ", "v1v", "v1x", "vx", "v+1", "v+0", "+v1", "v00", "v01", "v007", "v-01", "v-00", "v-0", "v-", "v--1", "v1-",
		"v9223372036854775808", "v-9223372036854775809", "v18446744073709551616", "v18446744073709551617", "v100000000000000000000", "v1.0", "v1e3", "v0x1", "v1_0", "v١", `"v1"`, "v1\x00", "x1", "w1", "W/v1",
	} {
		if n, ok := Number(Tag{Text: s}); n != 0 || ok {
			t.Errorf("Number of %q is %d, %v", s, n, ok)
		}
	}
	for _, n := range []int64{0, 1, -1, math.MaxInt64, math.MinInt64} {
		mark := Of(n)
		mark.Weak = true
		if n, ok := Number(mark); n != 0 || ok {
			t.Errorf("Number(%+v) is %d, %v", mark, n, ok)
		}
	}
	if n, ok := Number(Tag{Weak: true}); n != 0 || ok {
		t.Errorf("Number of a weak mark without a byte is %d, %v", n, ok)
	}
}

// P9.3: One of Print is the mark.
func TestOneOfPrint(t *testing.T) {
	bytes := markBytes()
	r := rand.New(rand.NewSource(93))
	for range 20000 {
		b := make([]byte, r.Intn(12))
		for i := range b {
			b[i] = bytes[r.Intn(len(bytes))]
		}
		mark := Tag{r.Intn(2) == 0, string(b)}
		s, e := Print(mark)
		if e != api.OK {
			t.Fatalf("Print(%+v) is %d", mark, e)
		}
		expectOne(t, s, mark)
		expectList(t, s, mark)
		expectList(t, s+" ,"+s, mark, mark)
	}
}

// P9.3: Number of Of is the number.
func TestNumberOfOf(t *testing.T) {
	r := rand.New(rand.NewSource(94))
	numbers := []int64{0, 1, -1, 9, 10, -9, -10, math.MaxInt64, math.MaxInt64 - 1, math.MinInt64, math.MinInt64 + 1, math.MaxInt32, math.MinInt32, api.MaxRev}
	for range 20000 {
		numbers = append(numbers, int64(r.Uint64())>>r.Intn(64))
	}
	for _, n := range numbers {
		mark := Of(n)
		if got, ok := Number(mark); got != n || !ok || mark.Weak {
			t.Errorf("Number(%+v) is %d, %v, not %d", mark, got, ok, n)
		}
		s, e := Print(mark)
		if l, pe := Parse(s); e != api.OK || pe != api.OK || !l.Has(mark) || l.Has(Of(^n)) {
			t.Errorf("%+v is not the one of %q", mark, s)
		}
	}
}

// Rule 4: no answer is seen in another one.
func TestAnswersShareNothing(t *testing.T) {
	const s = `"a", W/"b"`
	l, _ := Parse(s)
	l.Tags[0] = Tag{Text: "spoilt"}
	_ = append(l.Tags[:1], Tag{Text: "spoilt"})
	expectList(t, s, Tag{Text: "a"}, Tag{Weak: true, Text: "b"})

	in := List{Tags: []Tag{{Text: "a"}, {Text: "b"}}}
	in.Has(Tag{Text: "b"})
	if !slices.Equal(in.Tags, []Tag{{Text: "a"}, {Text: "b"}}) {
		t.Errorf("it became %+v", in)
	}
}

// P1: long texts end soon.
func TestLongTexts(t *testing.T) {
	const long = 1 << 20
	if l, e := Parse(strings.Repeat(`W/"a" ,, `, long)); len(l.Tags) != long || e != api.OK {
		t.Error(len(l.Tags), e)
	}
	expectNoList(t, strings.Repeat(", ", long))
	expectNoList(t, strings.Repeat(`"a",`, long)+"x")
	expectNoList(t, strings.Repeat(`"`, long+1))
	expectOne(t, `"`+strings.Repeat("a", long)+`"`, Tag{Text: strings.Repeat("a", long)})
	if n, ok := Number(Tag{Text: "v" + strings.Repeat("9", long)}); n != 0 || ok {
		t.Error(n, ok)
	}
}

// P1: no call panics, whatever the bytes; what One takes Print gives back.
func FuzzParse(f *testing.F) {
	for _, s := range append([]string{"*", `"a",W/"b"`, `, "v1" ,,`}, wrongMarks...) {
		f.Add(s)
	}
	f.Fuzz(func(t *testing.T, s string) {
		l, e := Parse(s)
		if (e == api.OK) != (l.Any || len(l.Tags) > 0) {
			t.Errorf("Parse(%q) is %+v, %d", s, l, e)
		}
		for _, mark := range l.Tags {
			p, pe := Print(mark)
			if pe != api.OK {
				t.Errorf("Print(%+v) is %d", mark, pe)
			}
			expectOne(t, p, mark)
		}
		if mark, e := One(s); e == api.OK {
			if p, pe := Print(mark); p != s || pe != api.OK {
				t.Errorf("Print of One(%q) is %q, %d", s, p, pe)
			}
		}
		if n, ok := Number(Tag{Text: s}); ok && Of(n).Text != s {
			t.Errorf("Number of %q is %d", s, n)
		}
	})
}
