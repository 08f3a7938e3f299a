package chars

import (
	"slices"
	"strings"
	"testing"
)

const (
	small   = "abcdefghijklmnopqrstuvwxyz"
	capital = "ABCDEFGHIJKLMNOPQRSTUVWXYZ"
	digits  = "0123456789"
)

// every is all 256 bytes, in order.
func every() string {
	b := make([]byte, 256)
	for i := range b {
		b[i] = byte(i)
	}
	return string(b)
}

// P1.1: each question about a byte, asked of all 256.
func TestKindsOfBytes(t *testing.T) {
	visible := "!\"#$%&'()*+,-./" + digits + ":;<=>?@" + capital + "[\\]^_`" + small + "{|}~"
	for _, k := range []struct {
		name string
		is   func(byte) bool
		want string
	}{
		{"Token", Token, small + capital + digits + "!#$%&'*+-.^_`|~"},
		{"Digit", Digit, digits},
		{"Letter", Letter, small + capital},
		{"Visible", Visible, visible},
		{"Space", Space, " \t"},
	} {
		for i := range 256 {
			c := byte(i)
			if got, want := k.is(c), strings.IndexByte(k.want, c) >= 0; got != want {
				t.Errorf("%s(%#02x) is %v", k.name, c, got)
			}
		}
	}
}

// P1.1: All.
func TestAll(t *testing.T) {
	for _, k := range []struct {
		s    string
		is   func(byte) bool
		want bool
	}{
		{"", Digit, true},
		{"7", Digit, true},
		{digits, Digit, true},
		{"x12", Digit, false},
		{"1x2", Digit, false},
		{"12x", Digit, false},
		{"x", Digit, false},
		{"a-Z.9", Token, true},
		{"a b", Token, false},
		{" \t ", Space, true},
		{"é", Visible, false},
		{"a\xFF", Letter, false},
		{"", nil, false},
		{"a", nil, false},
		{every(), nil, false},
	} {
		if got := All(k.s, k.is); got != k.want {
			t.Errorf("All of %q is %v", k.s, got)
		}
	}
}

// P1.1: All goes by bytes, not by runes.
func TestAllAsksEachByte(t *testing.T) {
	for _, s := range []string{"é€😀", "\xFF\xC3", every()} {
		var asked []byte
		if !All(s, func(c byte) bool { asked = append(asked, c); return true }) {
			t.Errorf("All of %q, where all are such", s)
		}
		if string(asked) != s {
			t.Errorf("of %q it asked about %q", s, asked)
		}
	}
}

// Rule 1: a panic of the function that is handed in goes on.
func TestAllLetsPanicGoOn(t *testing.T) {
	defer func() {
		if got := recover(); got != "mine" {
			t.Errorf("recovered %v", got)
		}
	}()
	All("a", func(byte) bool { panic("mine") })
	t.Error("no panic")
}

// P1.2: Lower.
func TestLower(t *testing.T) {
	for _, k := range []struct{ s, want string }{
		{"", ""},
		{"a", "a"},
		{"aBC-9", "abc-9"},
		{capital, small},
		{small, small},
		{"@[`{", "@[`{"},
		{"aBÉ", "abÉ"},
		{"İK", "İk"},
		{"\u212A", "\u212A"},
		{"\xC3A\xFFZ", "\xC3a\xFFz"},
		{"A\x00B", "a\x00b"},
	} {
		if got := Lower(k.s); got != k.want {
			t.Errorf("Lower(%q) is %q", k.s, got)
		}
	}
}

// P1.2: Lower of all 256 bytes changes the great letters alone.
func TestLowerOfEveryByte(t *testing.T) {
	for i := range 256 {
		want := byte(i)
		if at := strings.IndexByte(capital, want); at >= 0 {
			want = small[at]
		}
		if got := Lower(string([]byte{byte(i)})); got != string([]byte{want}) {
			t.Errorf("Lower of byte %#02x is %q", i, got)
		}
	}
}

// P1.2: Same.
func TestSame(t *testing.T) {
	for _, k := range []struct {
		a, b string
		want bool
	}{
		{"", "", true},
		{"", "a", false},
		{"ETag", "etag", true},
		{"HOST", "hOsT", true},
		{"Host", "Hos", false},
		{"Host", "Hosx", false},
		{"a", " a", false},
		{"@", "`", false},
		{"[", "{", false},
		{"É", "é", false},
		{"\u212A", "k", false},
		{"ſ", "s", false},
		{"\xFF", "\xFF", true},
		{"\xFF", "\xFE", false},
		{"\xFF", "\uFFFD", false},
	} {
		if Same(k.a, k.b) != k.want || Same(k.b, k.a) != k.want {
			t.Errorf("Same(%q, %q) is not %v", k.a, k.b, k.want)
		}
	}
}

// P1.2: Same of all pairs of bytes, as Lower says it.
func TestSameOfEveryPair(t *testing.T) {
	for i := range 256 {
		for j := range 256 {
			a, b := string([]byte{byte(i)}), string([]byte{byte(j)})
			if got, want := Same(a, b), Lower(a) == Lower(b); got != want {
				t.Errorf("Same(%q, %q) is %v", a, b, got)
			}
		}
	}
}

// P1.2: Trim.
func TestTrim(t *testing.T) {
	for _, k := range []struct{ s, want string }{
		{"", ""},
		{" ", ""},
		{"\t", ""},
		{" \t \t\t ", ""},
		{"a", "a"},
		{" a", "a"},
		{"a\t", "a"},
		{" \ta b ", "a b"},
		{"a \t b", "a \t b"},
		{"\na\n", "\na\n"},
		{" \r a \v", "\r a \v"},
		{" \x00 ", "\x00"},
		{"\u00A0a\u00A0", "\u00A0a\u00A0"},
		{" \xFF ", "\xFF"},
		{" \x85 ", "\x85"},
	} {
		if got := Trim(k.s); got != k.want {
			t.Errorf("Trim(%q) is %q", k.s, got)
		}
	}
}

// P1.2: Fields.
func TestFields(t *testing.T) {
	for _, k := range []struct {
		s    string
		sep  byte
		want []string
	}{
		{"", ',', nil},
		{",", ',', nil},
		{",,,", ',', nil},
		{" \t ", ',', nil},
		{" ,\t, ", ',', nil},
		{"a", ',', []string{"a"}},
		{"a, ,b", ',', []string{"a", "b"}},
		{",a,,b,", ',', []string{"a", "b"}},
		{" a ;; b", ';', []string{"a", "b"}},
		{"a,b", ';', []string{"a,b"}},
		{"a b, c\td", ',', []string{"a b", "c\td"}},
		{"a,a,a", ',', []string{"a", "a", "a"}},
		{" a  b\tc ", ' ', []string{"a", "b\tc"}},
		{"\ta \t b\t", '\t', []string{"a", "b"}},
		{"a\x00b\x00", 0, []string{"a", "b"}},
		{"a\xFFb", 0xFF, []string{"a", "b"}},
		{"é", 0xA9, []string{"\xC3"}},
		{"é", 0xE9, []string{"é"}},
		{"a\nb", '\n', []string{"a", "b"}},
		{"a\n,b", ',', []string{"a\n", "b"}},
	} {
		if got := Fields(k.s, k.sep); !slices.Equal(got, k.want) {
			t.Errorf("Fields(%q, %q) is %q", k.s, k.sep, got)
		}
	}
}

// P1.2: Fields at all 256 bytes, which stand once each.
func TestFieldsAtEveryByte(t *testing.T) {
	all := every()
	for i := range 256 {
		var want []string
		for _, part := range []string{all[:i], all[i+1:]} {
			if part = Trim(part); part != "" {
				want = append(want, part)
			}
		}
		if got := Fields(all, byte(i)); !slices.Equal(got, want) {
			t.Errorf("Fields at %#02x is %q", i, got)
		}
	}
}

// Rule 4: what is written into an answer is seen by no later one.
func TestFieldsAreNew(t *testing.T) {
	first := Fields("a,b", ',')
	first[0] = "x"
	_ = append(first[:1], "y")
	if got := Fields("a,b", ','); !slices.Equal(got, []string{"a", "b"}) {
		t.Errorf("the second answer is %q", got)
	}
}
