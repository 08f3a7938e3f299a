package page

import (
	"errors"
	"math"
	"slices"
	"strings"
	"testing"

	"larum/api"
	"larum/core"
	"larum/pct"
)

// P27.1: the cursor as text; nothing, if there is none.
func TestPrint(t *testing.T) {
	for _, x := range []struct {
		pin  int64
		at   int
		want string
	}{
		// The chapter's example.
		{3, 20, "p3.20"},
		{1, 0, "p1.0"}, {1, 1, "p1.1"}, {2, 14, "p2.14"}, {10, 9, "p10.9"}, {100, 1000, "p100.1000"},
		{math.MaxInt32, math.MaxInt32, "p2147483647.2147483647"},
		{math.MaxInt32 + 1, 0, "p2147483648.0"}, {1, math.MaxInt32 + 1, "p1.2147483648"},
		{math.MaxInt64, math.MaxInt64, "p9223372036854775807.9223372036854775807"},
		{0, 0, ""}, {0, 1, ""}, {-1, 1, ""}, {-3, 20, ""}, {math.MinInt64, 1, ""},
		{1, -1, ""}, {3, -20, ""}, {1, math.MinInt64, ""}, {-1, -1, ""}, {0, -1, ""}, {math.MinInt64, math.MinInt64, ""},
	} {
		if got := Print(core.Cursor{Pin: x.pin, At: x.at}); got != x.want {
			t.Errorf("Print of %d, %d is %q, not %q", x.pin, x.at, got, x.want)
		}
	}
}

// P27.1, P27.3: what Print wrote, up to the greatest number.
func TestReadOfPrint(t *testing.T) {
	for _, pin := range []int64{1, 2, 9, 10, 11, 999, 1 << 20, math.MaxInt32 - 1, math.MaxInt32} {
		for _, at := range []int{0, 1, 9, 10, 1000, 1 << 20, math.MaxInt32 - 1, math.MaxInt32} {
			c := core.Cursor{Pin: pin, At: at}
			if got, e := Read(Print(c)); got != c || e != api.OK {
				t.Errorf("Read of %s is %v, %d", Print(c), got, e)
			}
		}
	}
}

// P27.1: what is no cursor as text, or has too great a number.
func TestNoRead(t *testing.T) {
	for _, s := range []string{
		"", "p", ".", "p.", "p3", "p3.", "p.20", "3.20", "3", "20", ".20", "P3.20", "q3.20", "pp3.20", "p p", "c3.20",
		"p0.1", "p0.0", "p00.1", "p03.20", "p003.20", "p3.020", "p3.00", "p03.020", "p01.0",
		"p-3.20", "p-1.0", "p+3.20", "p3.-20", "p3.+20", "p3.-0", "p-0.1", "p1.-0", "p3.--20",
		"p3..20", "p3.20.", "p3.20.1", "p.3.20", "p3.2.0", "p3.20.20", "p3,20", "p3:20", "p320", "p3 20",
		" p3.20", "p3.20 ", "p 3.20", "p3 .20", "p3. 20", "p3.20\n", "p3.20\x00", "\x00p3.20", "p3.20x", "p3x.20", "px3.20", "p3.x20", "p3.2_0", "p3.0x14", "p3.2e1", "p3.20p", "p3.20p3.20", "p3.20,p3.20", "p3.２0", "p3.\xFF", "\xFF",
		"p2147483648.0", "p1.2147483648", "p2147483648.2147483648", "p4294967297.0", "p1.4294967296", "p9223372036854775807.1", "p1.9223372036854775807",
		"p9223372036854775808.1", "p1.9223372036854775808", "p18446744073709551617.1", "p1.18446744073709551616", "p" + strings.Repeat("9", 100000) + ".1", "p1." + strings.Repeat("9", 100000), "p1." + strings.Repeat("0", 100000), strings.Repeat("p", 100000),
		"p-9223372036854775808.0", "p1.-9223372036854775808",
	} {
		if c, e := Read(s); e != api.ErrForm || c != (core.Cursor{}) {
			t.Errorf("Read(%.40q) is %v, %d", s, c, e)
		}
	}
}

func expectNames(t *testing.T, s string, want ...string) {
	t.Helper()
	if l, e := Names(s); e != api.OK || !slices.Equal(l, want) {
		t.Errorf("Names(%.40q) is %q, %d, not %q", s, l, e, want)
	}
}

func expectNoNames(t *testing.T, s string) {
	t.Helper()
	if l, e := Names(s); e != api.ErrForm || len(l) != 0 {
		t.Errorf("Names(%.40q) is %q, %d", s, l, e)
	}
}

// P27.1: none, one, several, in their order.
func TestNames(t *testing.T) {
	expectNames(t, "")
	expectNames(t, "a", "a")
	expectNames(t, "_", "_")
	expectNames(t, "a,b", "a", "b")
	expectNames(t, "b,a", "b", "a")
	expectNames(t, "a,a", "a", "a")
	expectNames(t, "abc,_x9,Z", "abc", "_x9", "Z")
	expectNames(t, strings.Repeat("a,", 9999)+"a", slices.Repeat([]string{"a"}, 10000)...)
	expectNames(t, strings.Repeat("a", 100000), strings.Repeat("a", 100000))
}

// P27.1: an empty part, and one that is no name.
func TestNoNames(t *testing.T) {
	for _, s := range []string{",", ",,", "a,", ",a", "a,,b", "a,b,", ",a,b", "9", "9a", "a-b", "a.b", " ", " a", "a ", "a, b", "a ,b", "a;b", "a b", "a\n", "é", "\xFF", "\x00", "a,\xFF", "a=", `"a"`, "a,9", "9,a", "a,b,c,-", strings.Repeat("a,", 10000), strings.Repeat(",", 100000)} {
		expectNoNames(t, s)
	}
}

// Rule 4: a list that was answered is seen by no later answer.
func TestNamesAreNew(t *testing.T) {
	l, _ := Names("a,b")
	l[0] = "x"
	_ = append(l[:1], "y")
	expectNames(t, "a,b", "a", "b")
}

// all is the six names that a query may have.
var all = []string{"filter", "by", "n", "cursor", "rev", "wait"}

// pairs: of names and values, one behind the other.
func pairs(l ...string) []pct.Pair {
	var all []pct.Pair
	for i := 0; i+1 < len(l); i += 2 {
		all = append(all, pct.Pair{Name: l[i], Value: l[i+1]})
	}
	return all
}

// same: do both ask the same?
func same(a, b Query) bool {
	return (a.Filter == nil) == (b.Filter == nil) && a.Filter.String() == b.Filter.String() &&
		slices.Equal(a.By, b.By) && a.N == b.N && a.Cursor == b.Cursor && a.Rev == b.Rev && a.Wait == b.Wait
}

// expectQuery: pairs, of which all may stand, ask this, where Filter is as text
// (empty, if it is nil).
func expectQuery(t *testing.T, l []pct.Pair, filter string, want Query) {
	t.Helper()
	q, e := Parse(l, all...)
	if e != api.OK {
		t.Errorf("Parse(%.80q) is %d", l, e)
		return
	}
	if got := q.Filter.String(); (q.Filter == nil) != (filter == "") || q.Filter != nil && got != filter {
		t.Errorf("Parse(%.80q) has the filter %s, not %s", l, got, filter)
	}
	want.Filter = q.Filter
	if !same(q, want) {
		t.Errorf("Parse(%.80q) is %+v, not %+v", l, q, want)
	}
}

// expectNoQuery: these pairs, of which some may stand, are this error.
func expectNoQuery(t *testing.T, l []pct.Pair, want api.Errno, may ...string) {
	t.Helper()
	if q, e := Parse(l, may...); e != want || !same(q, Query{}) || q.Filter != nil {
		t.Errorf("Parse(%.80q, %.80q) is %+v, %d, not %d", l, may, q, e, want)
	}
}

// P27.2: what stands where a pair lacks.
func TestParseOfNothing(t *testing.T) {
	for _, may := range [][]string{nil, {}, {"n"}, {"x", ""}, all} {
		for _, l := range [][]pct.Pair{nil, {}} {
			q, e := Parse(l, may...)
			if e != api.OK || q.Filter != nil || len(q.By) != 0 || q.N != 100 || q.Cursor != (core.Cursor{}) || q.Rev != 0 || q.Wait != 0 {
				t.Errorf("Parse of nothing is %+v, %d", q, e)
			}
		}
	}
}

// P27.2: each name alone, its values at their bounds.
func TestParseOfOne(t *testing.T) {
	for s, want := range map[string]string{`{a="1"}`: `{a="1"}`, `{}`: `{}`, ` { a != "1" , b=~"x.*",}	`: `{a!="1",b=~"x.*"}`, "{" + strings.Repeat(`a="1",`, 32) + "}": "{" + strings.Repeat(`a="1",`, 31) + `a="1"}`} {
		expectQuery(t, pairs("filter", s), want, Query{N: 100})
	}
	expectQuery(t, pairs("by", "a,b"), "", Query{By: []string{"a", "b"}, N: 100})
	expectQuery(t, pairs("by", "a"), "", Query{By: []string{"a"}, N: 100})
	expectQuery(t, pairs("by", ""), "", Query{N: 100})
	for s, n := range map[string]int{"1": 1, "2": 2, "7": 7, "99": 99, "100": 100, "101": 101, "999": 999, "1000": 1000, "01": 1, "0001000": 1000} {
		expectQuery(t, pairs("n", s), "", Query{N: n})
	}
	for s, c := range map[string]core.Cursor{"p1.0": {Pin: 1}, "p2.14": {Pin: 2, At: 14}, "p2147483647.2147483647": {Pin: math.MaxInt32, At: math.MaxInt32}} {
		expectQuery(t, pairs("cursor", s), "", Query{N: 100, Cursor: c})
	}
	for s, n := range map[string]int64{"0": 0, "1": 1, "42": 42, "2147483648": 1 << 31, "9007199254740991": api.MaxRev, "9007199254740992": api.MaxRev + 1, "9223372036854775807": math.MaxInt64} {
		expectQuery(t, pairs("rev", s), "", Query{N: 100, Rev: n})
	}
	for s, n := range map[string]int64{"0": 0, "1": 1, "60": 60, "060": 60, "00": 0, "86401": 86401, "2147483647": math.MaxInt32} {
		expectQuery(t, pairs("wait", s), "", Query{N: 100, Wait: n})
	}
}

// wrongBy has for each name values that are not as they must be.
func wrongBy() map[string][]string {
	numbers := []string{"", " ", "x", "-1", "+1", "1.0", "1e3", " 1", "1 ", "1x", "0x1", "1\n", "１", "\xFF", "--1", "1,2"}
	return map[string][]string{
		"filter": {"", " ", "a", "{", "}", "{a}", `a="1"`, `{a="1"`, `a="1"}`, `{a="1"}x`, `x{a="1"}`, `{a=1}`, `{9="1"}`, `{a=~"("}`, `{a=="1"}`, `{,}`, `{a="1",,}`, `{a="` + "\xFF" + `"}`, "\xFF", `{a="1"}{a="1"}`},
		"by":     {",", "a,", ",a", "a,,b", "9", "a b", "a, b", " ", "\xFF", "é"},
		"n":      append([]string{"0", "00", "1001", "2000", "01001", "2147483647", "2147483648", "4294967297", "9223372036854775807", "18446744073709551617", strings.Repeat("9", 1000)}, numbers...),
		"cursor": {"", "p", "p0.1", "p1", "p1.", "p.1", "1.1", "p01.1", "p1.01", "p1.-1", "p-1.1", "p1.1 ", "p2147483648.1", "p1.2147483648", "p1.1.1", "\xFF"},
		"rev":    append([]string{"01", "00", "-2", "-9223372036854775808", "-9223372036854775809", "9223372036854775808", "18446744073709551616", strings.Repeat("9", 1000)}, numbers...),
		"wait":   append([]string{"-0", "2147483648", "4294967296", "9223372036854775808", strings.Repeat("9", 1000)}, numbers...),
	}
}

// P27.2: a value that is not as it must be; no error but a filter's is another
// one than ErrForm.
func TestParseOfWrongValues(t *testing.T) {
	for name, values := range wrongBy() {
		for _, s := range values {
			expectNoQuery(t, pairs(name, s), api.ErrForm, all...)
			expectNoQuery(t, pairs(name, s), api.ErrForm, name)
		}
	}
	expectNoQuery(t, pairs("filter", full), api.ErrFull, all...)
	expectNoQuery(t, pairs("filter", long), api.ErrLong, all...)
	expectNoQuery(t, pairs("filter", full), api.ErrForm, "by", "n")
	expectNoQuery(t, pairs("filter", long), api.ErrForm)
}

// full and long are filters' texts of which there is none, as they have too
// many matchers, and too long an expression.
var (
	full = "{" + strings.Repeat(`a="1",`, 33) + "}"
	long = `{a=~"((a{16}){16}){2}"}`
)

// P27.2: all of them together, in whatever order.
func TestParseOfAll(t *testing.T) {
	l := pairs("filter", `{a="1"}`, "by", "b,a", "n", "7", "cursor", "p2.14", "rev", "9", "wait", "60")
	want := Query{By: []string{"b", "a"}, N: 7, Cursor: core.Cursor{Pin: 2, At: 14}, Rev: 9, Wait: 60}
	for range len(l) {
		expectQuery(t, l, `{a="1"}`, want)
		l = append(l[1:], l[0])
	}
	slices.Reverse(l)
	expectQuery(t, l, `{a="1"}`, want)
	// Any two of them.
	for i := range l {
		for j := range l {
			if i == j {
				continue
			}
			q, e := Parse([]pct.Pair{l[i], l[j]}, l[i].Name, l[j].Name)
			if x, _ := Parse([]pct.Pair{l[j], l[i]}, all...); e != api.OK || !same(q, x) {
				t.Errorf("Parse of %v, %v is %d", l[i], l[j], e)
			}
		}
	}
}

// P27.2: a name that may not stand here, that is none of the six, or stands
// twice.
func TestParseOfWrongNames(t *testing.T) {
	right := pairs("filter", `{a="1"}`, "by", "a", "n", "7", "cursor", "p2.14", "rev", "9", "wait", "60")
	for i, p := range right {
		if _, e := Parse([]pct.Pair{p}, p.Name); e != api.OK {
			t.Errorf("Parse of %v is %d", p, e)
		}
		others := slices.Delete(slices.Clone(all), i, i+1)
		expectNoQuery(t, []pct.Pair{p}, api.ErrForm, others...)
		expectNoQuery(t, []pct.Pair{p}, api.ErrForm)
		expectNoQuery(t, right, api.ErrForm, others...)
		expectNoQuery(t, []pct.Pair{p, p}, api.ErrForm, all...)
		expectNoQuery(t, []pct.Pair{p, p}, api.ErrForm, p.Name, p.Name)
		expectNoQuery(t, append(slices.Clone(right), p), api.ErrForm, all...)
		for _, name := range []string{strings.ToUpper(p.Name), p.Name + " ", " " + p.Name, p.Name + "x", p.Name[1:]} {
			expectNoQuery(t, pairs(name, p.Value), api.ErrForm, all...)
			expectNoQuery(t, pairs(name, p.Value), api.ErrForm, name)
		}
	}
	for _, name := range []string{"", "x", "limit", "\xFF", "filters"} {
		for _, value := range []string{"", "1", "p1.1", `{a="1"}`} {
			expectNoQuery(t, pairs(name, value), api.ErrForm, all...)
			// That it may stand does not make it one of the six.
			expectNoQuery(t, pairs(name, value), api.ErrForm, append(slices.Clone(all), name)...)
			expectNoQuery(t, pairs("n", "7", name, value), api.ErrForm, "n", name)
		}
	}
	// What may stand need not, and may be told twice.
	if q, e := Parse(pairs("n", "7"), "x", "n", "n", ""); e != api.OK || q.N != 7 {
		t.Errorf("it is %+v, %d", q, e)
	}
}

// P27.2: the first pair that is wrong counts.
func TestParseOfTwoWrong(t *testing.T) {
	for _, form := range []pct.Pair{{Name: "n", Value: "0"}, {Name: "by", Value: ","}, {Name: "cursor", Value: "p0.1"}, {Name: "rev", Value: "-1"}, {Name: "wait", Value: "x"}, {Name: "x", Value: "1"}, {}} {
		for s, want := range map[string]api.Errno{full: api.ErrFull, long: api.ErrLong} {
			filter := pct.Pair{Name: "filter", Value: s}
			expectNoQuery(t, []pct.Pair{form, filter}, api.ErrForm, all...)
			expectNoQuery(t, []pct.Pair{filter, form}, want, all...)
			expectNoQuery(t, []pct.Pair{{Name: "rev", Value: "1"}, filter, form, form}, want, append(slices.Clone(all), "x", "")...)
		}
	}
	// Of a name that stands twice the second pair is wrong.
	for s, want := range map[string]api.Errno{full: api.ErrFull, long: api.ErrLong} {
		expectNoQuery(t, pairs("filter", s, "filter", s), want, all...)
		expectNoQuery(t, pairs("filter", s, "filter", "{}"), want, all...)
		expectNoQuery(t, pairs("filter", "{}", "filter", s), api.ErrForm, all...)
		expectNoQuery(t, pairs("n", "1", "filter", s, "n", "1"), want, all...)
		expectNoQuery(t, pairs("n", "1", "n", "1", "filter", s), api.ErrForm, all...)
	}
}

// P1: lists of very many pairs, and of very long ones.
func TestParseOfMuch(t *testing.T) {
	many := slices.Repeat(pairs("n", "7"), 1000000)
	expectNoQuery(t, many, api.ErrForm, all...)
	expectNoQuery(t, pairs("n", "7", strings.Repeat("x", 1000000), ""), api.ErrForm, slices.Repeat(all, 1000)...)
	expectNoQuery(t, pairs("filter", strings.Repeat("{", 1000000)), api.ErrForm, all...)
	expectNoQuery(t, pairs("filter", "{"+strings.Repeat(`a="1",`, 100000)+"}"), api.ErrFull, all...)
}

// Rules 4 and 5: what is handed in is neither changed nor kept.
func TestParseKeepsNothing(t *testing.T) {
	l := pairs("by", "a,b", "n", "7")
	may := []string{"n", "by"}
	q, _ := Parse(l, may...)
	if !slices.Equal(l, pairs("by", "a,b", "n", "7")) || !slices.Equal(may, []string{"n", "by"}) {
		t.Errorf("they became %v, %v", l, may)
	}
	l[0], l[1], may[0] = pct.Pair{}, pct.Pair{}, ""
	if !slices.Equal(q.By, []string{"a", "b"}) || q.N != 7 {
		t.Errorf("it became %+v", q)
	}
	q.By[0] = "x"
	expectQuery(t, pairs("by", "a,b", "n", "7"), "", Query{By: []string{"a", "b"}, N: 7})
}

// P27.2: what is wrong is an error that wraps a number, and tells the name.
func TestFaults(t *testing.T) {
	_, err := asked(pairs("n", "7", "filter", long, "x", ""), all)
	var f fault
	if !errors.As(err, &f) || f != (fault{"filter", api.ErrLong}) || !errors.Is(err, api.ErrLong) || !strings.Contains(err.Error(), "filter") {
		t.Errorf("it is %v", err)
	}
	if _, err = asked(pairs("n", "7"), all); err != nil {
		t.Errorf("it is %v", err)
	}
}
