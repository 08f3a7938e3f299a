package match

import (
	"slices"
	"strings"
	"testing"

	"larum/api"
)

// expectText: the list of these matchers has this text, and that is read back.
func expectText(t *testing.T, s string, l ...Matcher) {
	t.Helper()
	if got := list(t, l...).String(); got != s {
		t.Errorf("String of %+v is %q, not %q", l, got, s)
	}
	expectParse(t, s, l...)
}

// expectParse: s names these matchers.
func expectParse(t *testing.T, s string, l ...Matcher) {
	t.Helper()
	got, e := Parse(s)
	if got == nil || e != api.OK {
		t.Errorf("Parse(%q) is %s, %d", s, got, e)
	}
	expectList(t, got, l...)
}

func expectNoParse(t *testing.T, want api.Errno, texts ...string) {
	t.Helper()
	for _, s := range texts {
		if got, e := Parse(s); got != nil || e != want {
			t.Errorf("Parse(%.200q) is %.200q, %d, not %d alone", s, got, e, want)
		}
	}
}

// expectOne: s names m alone, as a list of it does.
func expectOne(t *testing.T, s string, m Matcher) {
	t.Helper()
	if got, e := One(s); got != m || e != api.OK {
		t.Errorf("One(%.200q) is %+v, %d, not %+v", s, got, e, m)
	}
}

// expectNoOne: s names no matcher, nor does it in a list.
func expectNoOne(t *testing.T, texts ...string) {
	t.Helper()
	for _, s := range texts {
		if got, e := One(s); got != (Matcher{}) || e != api.ErrForm {
			t.Errorf("One(%.200q) is %+v, %d, not ErrForm alone", s, got, e)
		}
		if strings.Trim(s, " \t") != "" { // of nothing at all, that is the empty list
			expectNoParse(t, api.ErrForm, "{"+s+"}")
		}
		expectNoParse(t, api.ErrForm, `{a="1",`+s+`,b="2"}`)
	}
}

// P17.1, P17.3: lists as text, to and fro: each kind, the empty list.
func TestText(t *testing.T) {
	expectText(t, "{}")
	expectText(t, `{a="1"}`, Matcher{"a", Equal, "1"})
	expectText(t, `{a!="1"}`, Matcher{"a", NotEqual, "1"})
	expectText(t, `{a=~"1"}`, Matcher{"a", Like, "1"})
	expectText(t, `{a!~"1"}`, Matcher{"a", NotLike, "1"})
	expectText(t, `{a="1",b!~"x.*"}`, Matcher{"a", Equal, "1"}, Matcher{"b", NotLike, "x.*"})
	// In the order in which they came, be they alike or not.
	expectText(t, `{b="2",a!="1",b="2",_Z9=~""}`, Matcher{"b", Equal, "2"}, Matcher{"a", NotEqual, "1"}, Matcher{"b", Equal, "2"}, Matcher{"_Z9", Like, ""})
}

// P17.1, P17.3: values with what stands in a text for more than itself, of
// each kind.
func TestTextOfValues(t *testing.T) {
	for _, k := range []struct{ value, quoted string }{
		{"", ""}, {" ", " "}, {"  x ", "  x "}, {`"`, `\"`}, {`""`, `\"\"`}, {",", ","}, {"}", "}"}, {"{}", "{}"}, {"=", "="}, {"=~!", "=~!"}, {"/", "/"}, {"'", "'"}, {`\"`, `\\\"`},
		{`",b="`, `\",b=\"`}, {`"}`, `\"}`}, {`{a="1"}`, `{a=\"1\"}`},
		{"\b\f\n\r\t", `\b\f\n\r\t`}, {"\x00\x01\x0B\x1F", `\u0000\u0001\u000b\u001f`}, {"\x7F", "\x7F"},
		{"é", "é"}, {"€", "€"}, {"😀", "😀"}, {"aé€😀b", "aé€😀b"}, {"\u0080\u07FF\u0800\uD7FF\uE000\uFFFF\U00010000\U0010FFFF", "\u0080\u07FF\u0800\uD7FF\uE000\uFFFF\U00010000\U0010FFFF"},
	} {
		for kind, sign := range map[int]string{Equal: "=", NotEqual: "!="} {
			expectText(t, "{a"+sign+`"`+k.quoted+`"}`, Matcher{"a", kind, k.value})
			expectText(t, "{a"+sign+`"`+k.quoted+`",b`+sign+`"`+k.quoted+`"}`, Matcher{"a", kind, k.value}, Matcher{"b", kind, k.value})
		}
	}
	expectText(t, `{a=~"\\\\",b!~"\"|\\{,\\}\n|é+",c=~"[\\d€]*"}`, Matcher{"a", Like, `\\`}, Matcher{"b", NotLike, "\"|\\{,\\}\n|é+"}, Matcher{"c", Like, `[\d€]*`})
}

// P17.2: One of each sign, with blanks around, around its sign, and none.
func TestOne(t *testing.T) {
	for kind, sign := range map[int]string{Equal: "=", NotEqual: "!=", Like: "=~", NotLike: "!~"} {
		m := Matcher{"a_1", kind, "x y"}
		for _, s := range []string{"a_1_\"x y\"", " a_1_\"x y\"", "a_1_\"x y\" ", "a_1 _\"x y\"", "a_1_ \"x y\"", "a_1 _ \"x y\"", " a_1 _ \"x y\" ", "\ta_1\t_\t\"x y\"\t", " \t a_1\t \t_ \t \"x y\"\t\t  "} {
			expectOne(t, s[:strings.LastIndex(s, "_")]+sign+s[strings.LastIndex(s, "_")+1:], m)
		}
		expectOne(t, "_"+sign+`""`, Matcher{"_", kind, ""})
		for _, name := range wrongNames {
			// Blanks around a name may stand; a ! behind it is of the sign.
			if strings.Trim(name, " \t!") != "a" {
				expectNoOne(t, name+sign+`"1"`)
			}
		}
	}
	// The longest sign is meant, and what stands behind it may look like one.
	expectOne(t, `a="~"`, Matcher{"a", Equal, "~"})
	expectOne(t, `a=~"="`, Matcher{"a", Like, "="})
	expectOne(t, `a!="~!="`, Matcher{"a", NotEqual, "~!="})
}

// P17.2: the value in quotes may be any such text, written in another way than
// Quote does, too.
func TestOneOfValues(t *testing.T) {
	for quoted, value := range map[string]string{
		`"\u0041\u00e9\u00E9"`: "Aéé", `"\ud83d\ude00"`: "😀", `"\/\"\\"`: `/"\`, `"\u000a\u000A\n"`: "\n\n\n", `"\b\f\n\r\t\u0000"`: "\b\f\n\r\t\x00", `"\u0022,\u007d"`: `",}`, `" , } \" "`: ` , } " `, `"é€😀"`: "é€😀", `"` + "\x7F" + `"`: "\x7F", `"a=\"b\""`: `a="b"`, `"{}"`: "{}", `"//"`: "//",
	} {
		expectOne(t, "a="+quoted, Matcher{"a", Equal, value})
		expectOne(t, "a !~\t"+quoted+" ", Matcher{"a", NotLike, value})
		expectParse(t, "{a="+quoted+"}", Matcher{"a", Equal, value})
		expectParse(t, "{a!="+quoted+" , b="+quoted+",}", Matcher{"a", NotEqual, value}, Matcher{"b", Equal, value})
	}
	// Whatever its expression: the matcher all the same.
	for _, x := range slices.Concat(wrongExpressions, longExpressions) {
		q := `"` + strings.ReplaceAll(x, `\`, `\\`) + `"`
		expectOne(t, "a=~"+q, Matcher{"a", Like, x})
		expectOne(t, " a !~ "+q, Matcher{"a", NotLike, x})
	}
}

// P17.2: ErrForm of what is no matcher's text.
func TestOneOfWrongTexts(t *testing.T) {
	expectNoOne(t, "", " ", "\t", "a", `"1"`, `a"1"`, `a "1"`, "=", "!=", "a=", "a!", "a=~", "a!~", "a!=", `="1"`, `!~"1"`, ` ="1"`,
		// Signs cut short, cut apart, or none.
		`a!"1"`, `a~"1"`, `a= ~"1"`, `a! ="1"`, `a! ~"1"`, `a=="1"`, `a==~"1"`, `a=~="1"`, `a=!"1"`, `a~="1"`, `a!!"1"`, `a!=~"1"`, `a=~~"1"`, `a!~~"1"`, `a<>"1"`, `a:"1"`, `a≠"1"`, "a=\n~\"1\"", `"a"="1"`,
		// No quotes, others, or some that are not closed.
		"a=1", "a=b", "a='1'", "a=`1`", `a="`, `a="1`, `a=1"`, `a="\"`, `a="1\"`, `a="\\\"`, "a=null", "a=true", "a={}", "a=[]", "a=,", "a=12",
		// Something behind the quotes, or ahead of them.
		`a="1"x`, `a="1" x`, `a="1"1`, `a="1""2"`, `a="1" "2"`, `a="1"="2"`, `a="1"}`, `a="1"]`, "a=\"1\"\x00", "a=\"1\"\xFF", `a=x"1"`, `a=("1")`, `a="1";`, `a="1" b="2"`, `a b="1"`, `{a="1"`, `a="1"é`,
		// What a text may not be.
		`a="\x41"`, `a="\a"`, `a="\'"`, `a="\u00"`, `a="\u00g0"`, `a="\ud83d"`, `a="\ude00"`, `a="\ude00\ud83d"`, `a="\ud83d\u0041"`, "a=\"\n\"", "a=\"\t\"", "a=\"\x00\"", "a=\"\x1F\"", "a=\"\xFF\"", "a=\"\xC3\"", "a=\"\xED\xA0\x80\"", "a=\"é\xE2\x82\"",
		// Blanks of tokens that are no bytes of protocols' blanks.
		"\na=\"1\"", "a\n=\"1\"", "a=\n\"1\"", "a=\r\"1\"", "a= \n \"1\"", "a=\"1\"\n", "a=\"1\"\r\n", "\ra=\"1\"", "a\r=\"1\"", "a=\v\"1\"", "a=\u00A0\"1\"", "\uFEFFa=\"1\"",
	)
	for _, s := range []string{`a="1",`, `,a="1"`, `a="1",b="2"`, `{a="1"}`, "{}", "a,b"} {
		if got, e := One(s); got != (Matcher{}) || e != api.ErrForm {
			t.Errorf("One(%q) is %+v, %d", s, got, e)
		}
	}
}

// P17.2: no beginning and no end of a matcher's text is one, but for the names
// that are shorter.
func TestTextsNearby(t *testing.T) {
	s := `abc!~"x\"y"`
	for i := range len(s) {
		expectNoOne(t, s[:i])
		switch {
		case i == 0:
		case i < len("abc"):
			expectOne(t, s[i:], Matcher{"abc"[i:], NotLike, `x"y`})
		default:
			expectNoOne(t, s[i:])
		}
	}
	list := `{a="1",b=~"x"}`
	for i := range len(list) {
		expectNoParse(t, api.ErrForm, list[:i])
		if i > 0 {
			expectNoParse(t, api.ErrForm, list[i:])
		}
	}
	for c := range 256 {
		x := string([]byte{byte(c)})
		switch c {
		case ' ', '\t':
			expectParse(t, x+list+x, Matcher{"a", Equal, "1"}, Matcher{"b", Like, "x"})
			expectOne(t, `a=`+x+`"1"`, Matcher{"a", Equal, "1"})
			continue
		case '~':
			expectOne(t, `a=`+x+`"1"`, Matcher{"a", Like, "1"})
		default:
			expectNoOne(t, `a=`+x+`"1"`)
		}
		expectNoParse(t, api.ErrForm, x+list, list+x)
		expectNoOne(t, `a=`+x+x+`"1"`, `a="1"`+x+x)
	}
}

// P17.2: Parse of lists that are written in other ways than String does.
func TestParse(t *testing.T) {
	a, b := Matcher{"a", Equal, "1"}, Matcher{"b", NotLike, "x.*"}
	for _, s := range []string{"{}", "{ }", "{\t}", " {} ", "\t{ \t }\t", "{  }"} {
		expectParse(t, s)
	}
	for _, s := range []string{`{a="1"}`, `{a="1",}`, `{a="1", }`, `{a="1" ,}`, ` { a = "1" } `, "\t{\ta\t=\t\"1\"\t,\t}\t", `{a="\u0031"}`} {
		expectParse(t, s, a)
	}
	for _, s := range []string{`{a="1",b!~"x.*"}`, `{a="1", b!~"x.*"}`, `{a="1" ,b!~"x.*",}`, "{ a =\"1\"\t,\tb!~ \"x.*\" , } "} {
		expectParse(t, s, a, b)
	}
	expectParse(t, `{b!~"x.*",a="1",a="1"}`, b, a, a)
	// Commas and braces within quotes cut nothing.
	expectParse(t, `{a=",",b="}",c="\"},{",}`, Matcher{"a", Equal, ","}, Matcher{"b", Equal, "}"}, Matcher{"c", Equal, `"},{`})
}

// P17.2: ErrForm of what is no list's text.
func TestParseOfWrongTexts(t *testing.T) {
	expectNoParse(t, api.ErrForm,
		"", " ", "{", "}", "{{}", "{}}", "{}{}", "}{", "{{}}", "[]", "()", "null", `a="1"`, `{a="1"`, `a="1"}`, `"{}"`, `{"`, `"}`, `{"}`, `{a}`, "{a=}", "{a=1}", `{="1"}`, `{a="1}`, `{a="\"}`, `{1="a"}`,
		// A comma too many, or none.
		"{,}", "{ , }", "{,,}", `{,a="1"}`, `{a="1",,}`, `{a="1", ,}`, `{a="1",,b="2"}`, `{a="1" b="2"}`, `{a="1"b="2"}`, `{a="1";b="2"}`, `{a="1",b}`, `{a="1",b=}`, `{a="1",b="}`, `{a="1",="2"}`, `{a="1",1="2"}`,
		// Something behind the brace, or ahead of it.
		"{}x", "{},", "x{}", ",{}", "{} {}", `{a="1"}x`, `{a="1"}}`, `{{a="1"}`, `{a="1"},`, `{a="1"}{b="2"}`, `{a="1"}"`, `{a="1"} }`, "{}\x00", "{}\xFF", "\xFF{}",
		// Other blanks.
		"\n{}", "{}\n", "{\n}", "{}\r\n", "{\r}", "{\va=\"1\"}", "{a=\"1\",\n}", "{a=\"1\"\n,}", "{\u00A0}",
		// No expressions, and values that are not valid.
		`{a=~"("}`, `{a="1",b!~"*"}`, "{a=\"\xFF\"}", `{a="\ud800"}`,
	)
}

// P17.2: what is no text is ErrForm, then Of's error counts.
func TestParseOfWrongMatchers(t *testing.T) {
	long := `a=~"` + longExpressions[0] + `"`
	expectNoParse(t, api.ErrLong, "{"+long+"}", "{ "+long+" , }", `{b="1",`+long+"}", "{"+long+`,a=~"("}`)
	expectNoParse(t, api.ErrForm, `{a=~"(",`+long+"}", "{"+long, "{"+long+",,}", "{"+long+",1}", "{"+long+"}x")
	many := func(n int) string { return strings.Repeat(`a!="1",`, n) }
	if l, e := Parse("{" + many(32) + "}"); l.Len() != 32 || e != api.OK {
		t.Errorf("%s, %d", l, e)
	}
	expectNoParse(t, api.ErrFull, "{"+many(33)+"}", "{"+many(32)+`a="1"}`, "{"+many(32)+long+"}", `{a=~"(",`+many(32)+"}", "{"+many(10000)+"}")
	expectNoParse(t, api.ErrForm, "{"+many(33)+",}", "{"+many(33), "{"+many(40)+"a}", "{"+many(33)+`1="1"}`)
	// A list that was refused is none of the caller's.
	expectNoParse(t, api.ErrForm, "{"+many(31)+`a=~"("}`)
}

// P1: long texts end soon.
func TestLongTexts(t *testing.T) {
	const size = 1 << 20
	a, blank := strings.Repeat("a", size), strings.Repeat(" ", size)
	expectOne(t, a+`="`+a+`"`, Matcher{a, Equal, a})
	expectOne(t, blank+"a"+blank+"="+blank+`"1"`+blank, Matcher{"a", Equal, "1"})
	expectParse(t, blank+"{"+blank+`a="1"`+blank+","+blank+"}"+blank, Matcher{"a", Equal, "1"})
	expectParse(t, "{"+blank+"}")
	expectNoOne(t, a, blank, a+"=", a+`="`, `a="`+a, "a="+a, strings.Repeat("=", size), strings.Repeat("!", size), strings.Repeat(`"`, size))
	for _, part := range []string{"{", "}", ",", "{,", `{a="1",`, `a="1",`, `"`, "{a=", "{ ", "=~!", `\`, "{}"} {
		expectNoParse(t, api.ErrForm, strings.Repeat(part, size), "{"+strings.Repeat(part, size), strings.Repeat(part, size)+"}x")
	}
	expectNoParse(t, api.ErrFull, "{"+strings.Repeat(`a="1",`, 1<<17)+"}", "{"+strings.Repeat(`a=~"(" , `, 1<<17)+blank+"}")
}
