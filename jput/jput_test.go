package jput

import (
	"encoding/json"
	"errors"
	"math"
	"math/rand"
	"slices"
	"strconv"
	"strings"
	"testing"

	"larum/api"
	"larum/jval"
)

// odd are kinds that there are not.
var odd = []int{math.MinInt, -2, -1, 6, 7, 99, math.MaxInt}

// wrong are texts that are not valid.
var wrong = []string{"\xFF", "a\xC3", "\xE2\x82", "\x80", "é\xED\xA0\x80", "\xC0\x80", "\xF4\x90\x80\x80"}

var null = jval.Value{}

func object(l ...any) jval.Value {
	v := jval.Value{Kind: jval.Object}
	for i := 0; i < len(l); i += 2 {
		v.Keys = append(v.Keys, l[i].(string))
		v.Items = append(v.Items, l[i+1].(jval.Value))
	}
	return v
}

func list(l ...jval.Value) jval.Value { return jval.Value{Kind: jval.List, Items: l} }

func text(s string) jval.Value { return jval.Value{Kind: jval.Text, Text: s} }

func number(n int64) jval.Value { return jval.Value{Kind: jval.Number, N: n} }

// around: n lists and objects, in turn, around v.
func around(v jval.Value, n int) jval.Value {
	for i := range n {
		if i%2 == 0 {
			v = list(v)
		} else {
			v = object("k", v)
		}
	}
	return v
}

// alike: are all fields the same, whatever the kinds?
func alike(a, b jval.Value) bool {
	return a.Kind == b.Kind && a.Is == b.Is && a.N == b.N && a.Text == b.Text && slices.Equal(a.Keys, b.Keys) && slices.EqualFunc(a.Items, b.Items, alike)
}

// twin: v with lists of its own.
func twin(v jval.Value) jval.Value {
	v.Keys = slices.Clone(v.Keys)
	v.Items = slices.Clone(v.Items)
	for i := range v.Items {
		v.Items[i] = twin(v.Items[i])
	}
	return v
}

// spoil writes into all lists of v, and behind them, as far as they reach.
func spoil(v jval.Value) {
	for i := range v.Items {
		spoil(v.Items[i])
		v.Items[i] = jval.Value{Kind: 77, Text: "spoilt"}
	}
	for i := range v.Keys {
		v.Keys[i] = "spoilt"
	}
	_ = append(v.Items, jval.Value{Kind: 78})
	_ = append(v.Keys, "spoilt")
}

// expectText: v is right, and written so; alone, in lines, and within others.
func expectText(t *testing.T, v jval.Value, want string) {
	t.Helper()
	before := twin(v)
	if s, e := Encode(v); s != want || e != api.OK {
		t.Errorf("Encode(%+v) is %q, %d, not %q", v, s, e, want)
	}
	if e := Right(v); e != api.OK {
		t.Errorf("Right(%+v) is %d", v, e)
	}
	if s, e := Lines([]jval.Value{v, null, v}); s != want+"\nnull\n"+want+"\n" || e != api.OK {
		t.Errorf("Lines of %+v is %q, %d", v, s, e)
	}
	if !alike(v, before) {
		t.Errorf("%+v became %+v", before, v)
	}
}

// expectWrong: v is not right, and nothing is written of it.
func expectWrong(t *testing.T, v jval.Value, want api.Errno) {
	t.Helper()
	if e := Right(v); e != want {
		t.Errorf("Right(%.200v) is %d, not %d", v, e, want)
	}
	if s, e := Encode(v); s != "" || e != want {
		t.Errorf("Encode(%.200v) is %q, %d, not %d alone", v, s, e, want)
	}
	for _, l := range [][]jval.Value{{v}, {null, v}, {v, null}, {null, v, number(1)}} {
		if s, e := Lines(l); s != "" || e != want {
			t.Errorf("Lines(%.200v) is %q, %d, not %d alone", l, s, e, want)
		}
	}
}

// expectForm: v is not right, and so nothing is that it is a part of.
func expectForm(t *testing.T, v jval.Value) {
	t.Helper()
	expectWrong(t, v, api.ErrForm)
	expectWrong(t, list(v), api.ErrForm)
	expectWrong(t, list(number(1), v, text("a")), api.ErrForm)
	expectWrong(t, object("a", v), api.ErrForm)
	expectWrong(t, object("b", number(1), "a", v, "c", list()), api.ErrForm)
	expectWrong(t, around(v, 3), api.ErrForm)
	expectWrong(t, around(v, 4), api.ErrForm)
}

// P7.1: each kind of value, as it is written.
func TestEncodeOfEachKind(t *testing.T) {
	for _, k := range []struct {
		v    jval.Value
		want string
	}{
		{null, "null"},
		{jval.Value{Kind: jval.Bool, Is: true}, "true"},
		{jval.Value{Kind: jval.Bool}, "false"},
		{number(0), "0"},
		{number(-1), "-1"},
		{number(1000), "1000"},
		{number(math.MaxInt64), "9223372036854775807"},
		{number(math.MinInt64), "-9223372036854775808"},
		{text(""), `""`},
		{text("a b"), `"a b"`},
		{text("\"\\/"), `"\"\\/"`},
		{text("\b\f\n\r\t"), `"\b\f\n\r\t"`},
		{text("\x00\x1f\x7f"), "\"\\u0000\\u001f\x7f\""},
		{text("é€😀\u2028<>&"), "\"é€😀\u2028<>&\""},
		{text("[1]"), `"[1]"`},
		{list(), "[]"},
		{list(null), "[null]"},
		{list(number(2), number(1), number(2)), "[2,1,2]"},
		{list(text("b"), text("a"), list(), object()), `["b","a",[],{}]`},
		{object(), "{}"},
		{object("a", null), `{"a":null}`},
		{object("a", number(1), "b", list(jval.OfBool(true))), `{"a":1,"b":[true]}`},
		{object("b", number(1), "a", list(jval.OfBool(true))), `{"a":[true],"b":1}`},
		{object("\n\"", text("x")), `{"\n\"":"x"}`},
		{object("", object("", object())), `{"":{"":{}}}`},
		{list(object("z", object("b", number(1), "a", number(2)), "y", null)), `[{"y":null,"z":{"a":2,"b":1}}]`},
		{object("a", object("a", number(1)), "b", object("a", number(1))), `{"a":{"a":1},"b":{"a":1}}`},
	} {
		expectText(t, k.v, k.want)
		expectText(t, list(k.v, k.v), "["+k.want+","+k.want+"]")
		expectText(t, object("x", k.v, "", k.v), `{"":`+k.want+`,"x":`+k.want+`}`)
	}
}

// P7.1: keys rise by the bytes that they have, neither by those that they are
// written with, nor by runes of other kinds.
func TestKeysRise(t *testing.T) {
	rising := []string{
		"", "\x00", "\n", "\x1f", " ", "!", `"`, "#", "/", "0", "10", "9", "A", "Z", `\`, `\a`, "a", "a\x00", "a\n", "a ", "a!", `a"`, "aB", "aa", "ab", "b", "\x7f", "é", "ﬀ", "\uFFFF", "😀",
	}
	if !slices.IsSorted(rising) {
		t.Fatal("the test's keys do not rise")
	}
	for shift := range rising {
		v := object()
		for i := range rising {
			at := (i*7 + shift) % len(rising)
			v = jval.With(v, rising[at], number(int64(at)))
		}
		s, e := Encode(v)
		got, _, re := jval.Parse(s, 1)
		if e != api.OK || re != api.OK || !slices.Equal(got.Keys, rising) {
			t.Fatalf("Encode(%+v) is %s, %d, %d", v, s, e, re)
		}
		for i, x := range got.Items {
			if x.N != int64(i) {
				t.Fatalf("the item of %q is %d, not %d", rising[i], x.N, i)
			}
		}
		if !jval.Same(got, Sorted(v)) {
			t.Fatalf("Sorted(%+v) is %+v", v, Sorted(v))
		}
	}
}

// P7.1: kinds that there are not.
func TestKindsThatAreNot(t *testing.T) {
	for _, kind := range odd {
		expectForm(t, jval.Value{Kind: kind})
		expectForm(t, jval.Value{Kind: kind, Is: true, N: 1, Text: "t", Items: []jval.Value{null}, Keys: []string{"a"}})
	}
}

// P7.1: texts and keys that are not valid.
func TestWrongTexts(t *testing.T) {
	for _, s := range wrong {
		expectForm(t, text(s))
		expectForm(t, text("a"+s+"b"))
		expectForm(t, object(s, null))
		expectForm(t, object("a", null, s, null))
		expectForm(t, object(s, null, "a", null))
		expectForm(t, object("a", null, "b"+s+"c", list()))
	}
}

// P7.1: keys that are there twice; in two objects they are not.
func TestKeysTwice(t *testing.T) {
	expectForm(t, object("a", null, "a", null))
	expectForm(t, object("a", number(1), "b", null, "a", number(2)))
	expectForm(t, object("b", null, "a", null, "c", null, "c", null))
	expectForm(t, object("", null, "", null))
	expectForm(t, object("é", null, "é", null))
	expectText(t, object("é", null, "e\u0301", null), "{\"e\u0301\":null,\"é\":null}")
	expectText(t, object("a", null, "A", null, "a ", null), `{"A":null,"a":null,"a ":null}`)
	expectText(t, list(object("a", null), object("a", null)), `[{"a":null},{"a":null}]`)
	expectText(t, object("a", object("a", object("a", null))), `{"a":{"a":{"a":null}}}`)
}

// P7.1: objects that have more Keys than Items, or fewer.
func TestKeysAndItemsNotAsMany(t *testing.T) {
	for keys := range 4 {
		for items := range 4 {
			v := jval.Value{Kind: jval.Object, Keys: []string{"a", "b", "c"}[:keys], Items: make([]jval.Value, items)}
			if keys != items {
				expectForm(t, v)
			} else if e := Right(v); e != api.OK {
				t.Errorf("Right(%+v) is %d", v, e)
			}
		}
	}
}

// P7.1: what a kind does not have counts for nothing, be it wrong, too deep,
// or one that holds itself.
func TestStrayPartsCountForNothing(t *testing.T) {
	ring := make([]jval.Value, 1)
	ring[0] = list()
	ring[0].Items = ring
	strayItems := [][]jval.Value{nil, {null}, {text("\xFF")}, {{Kind: 9}}, {around(null, 20)}, ring}
	strayKeys := [][]string{nil, {"a"}, {"a", "a"}, {"\xFF"}}
	for _, k := range []struct {
		v    jval.Value
		want string
	}{
		{null, "null"},
		{jval.OfBool(true), "true"},
		{number(5), "5"},
		{text("t"), `"t"`},
		{list(number(1)), "[1]"},
		{list(), "[]"},
		{object("k", number(1)), `{"k":1}`},
	} {
		for _, items := range strayItems {
			for _, keys := range strayKeys {
				v := k.v
				switch v.Kind {
				case jval.List:
					v.Keys = keys
				case jval.Object:
				default:
					v.Keys, v.Items = keys, items
				}
				if v.Kind != jval.Bool {
					v.Is = true
				}
				if v.Kind != jval.Number {
					v.N = -7
				}
				if v.Kind != jval.Text {
					v.Text = "\xFF"
				}
				for _, x := range []struct {
					v    jval.Value
					want string
				}{{v, k.want}, {list(v), "[" + k.want + "]"}, {object("o", v), `{"o":` + k.want + "}"}} {
					if s, e := Encode(x.v); s != x.want || e != api.OK || Right(x.v) != api.OK {
						t.Errorf("Encode of a %s with stray parts is %q, %d", x.want, s, e)
					}
				}
			}
		}
	}
}

// P7.1: a depth of MaxDepth, of one more, and of what is far beyond.
func TestDepths(t *testing.T) {
	for n := range api.MaxDepth + 4 {
		lists, objects := null, null
		for range n {
			lists, objects = list(lists), object("k", objects)
		}
		for _, k := range []struct {
			v           jval.Value
			open, close string
		}{{lists, "[", "]"}, {objects, `{"k":`, "}"}} {
			if n <= api.MaxDepth {
				expectText(t, k.v, strings.Repeat(k.open, n)+"null"+strings.Repeat(k.close, n))
				continue
			}
			expectWrong(t, k.v, api.ErrDeep)
		}
	}
	// One without an item counts as one that has some.
	for _, v := range []jval.Value{list(), object()} {
		if e := Right(around(v, api.MaxDepth-1)); e != api.OK {
			t.Errorf("Right at MaxDepth is %d", e)
		}
		expectWrong(t, around(v, api.MaxDepth), api.ErrDeep)
		expectWrong(t, around(v, 1000), api.ErrDeep)
	}
	// It is the greatest depth that counts, wherever that item stands.
	deep := around(null, api.MaxDepth)
	expectWrong(t, list(null, deep), api.ErrDeep)
	expectWrong(t, list(deep, null), api.ErrDeep)
	expectWrong(t, object("a", null, "b", list(), "c", deep), api.ErrDeep)
	if e := Right(list(around(null, 15), around(null, 15), null)); e != api.OK {
		t.Errorf("Right of some at MaxDepth is %d", e)
	}
}

// P1, P7.1: of what is both too deep and not right else ErrDeep is told.
func TestDeepIsToldFirst(t *testing.T) {
	deep := around(null, api.MaxDepth)
	faults := []jval.Value{{Kind: 9}, text("\xFF"), object("\xFF", null), object("a", null, "a", null), {Kind: jval.Object, Keys: []string{"a"}}, {Kind: jval.Object, Items: []jval.Value{null}}}
	for _, f := range faults {
		expectWrong(t, list(f, deep), api.ErrDeep)
		expectWrong(t, list(deep, f), api.ErrDeep)
		expectWrong(t, around(f, api.MaxDepth+1), api.ErrDeep)
		expectWrong(t, object("a", f, "b", deep), api.ErrDeep)
		// Just deep enough, it is told.
		expectWrong(t, around(f, api.MaxDepth-1), api.ErrForm)
	}
	expectWrong(t, around(text("\xFF"), api.MaxDepth), api.ErrForm)
	// All Items count for the depth, whatever the Keys are.
	expectWrong(t, jval.Value{Kind: jval.Object, Items: []jval.Value{null, deep}}, api.ErrDeep)
	expectWrong(t, jval.Value{Kind: jval.Object, Keys: []string{"a", "b"}, Items: []jval.Value{deep}}, api.ErrDeep)
	expectWrong(t, object("a", deep, "a", deep), api.ErrDeep)
	expectWrong(t, object("\xFF", deep), api.ErrDeep)
	// A kind that there is not has no depth.
	expectWrong(t, jval.Value{Kind: 9, Items: []jval.Value{deep}}, api.ErrForm)
}

// P1: values that hold themselves are too deep, and that is found.
func TestValuesThatHoldThemselves(t *testing.T) {
	for _, kind := range []int{jval.List, jval.Object} {
		items := make([]jval.Value, 3)
		v := jval.Value{Kind: kind, Items: items, Keys: []string{"a", "b", "c"}}
		items[1], items[2] = v, v
		if s, e := Encode(v); s != "" || e != api.ErrDeep || Right(v) != api.ErrDeep {
			t.Errorf("kind %d: %q, %d", kind, s, e)
		}
		if s, e := Lines([]jval.Value{null, v}); s != "" || e != api.ErrDeep {
			t.Errorf("kind %d: %q, %d", kind, s, e)
		}
	}
}

// P1: values as deep as the document bounds them.
func TestDeepValues(t *testing.T) {
	const deep = 1 << 16
	v := around(object("b", null, "a", null), deep-1)
	expectDeep := func(v jval.Value) {
		if s, e := Encode(v); s != "" || e != api.ErrDeep || Right(v) != api.ErrDeep {
			t.Errorf("%q, %d", s, e)
		}
	}
	expectDeep(v)
	got := Sorted(v)
	expectDeep(got)
	if n := jval.Depth(got); n != deep {
		t.Errorf("the depth is %d", n)
	}
	for len(got.Items) == 1 {
		got = got.Items[0]
	}
	if !slices.Equal(got.Keys, []string{"a", "b"}) {
		t.Errorf("the innermost is %+v", got)
	}
}

// P7.1: Lines of none, of some, and which error it tells.
func TestLines(t *testing.T) {
	for _, k := range []struct {
		l    []jval.Value
		want string
	}{
		{nil, ""},
		{[]jval.Value{}, ""},
		{[]jval.Value{null}, "null\n"},
		{[]jval.Value{text("")}, "\"\"\n"},
		{[]jval.Value{text("a\nb"), text("c")}, "\"a\\nb\"\n\"c\"\n"},
		{[]jval.Value{number(2), number(1), number(2)}, "2\n1\n2\n"},
		{[]jval.Value{object("b", null, "a", null), list()}, "{\"a\":null,\"b\":null}\n[]\n"},
	} {
		if s, e := Lines(k.l); s != k.want || e != api.OK {
			t.Errorf("Lines(%+v) is %q, %d", k.l, s, e)
		}
	}
	deep := around(null, api.MaxDepth+1)
	for _, k := range []struct {
		l    []jval.Value
		want api.Errno
	}{
		{[]jval.Value{text("\xFF")}, api.ErrForm},
		{[]jval.Value{null, {Kind: 9}, null}, api.ErrForm},
		{[]jval.Value{null, null, deep}, api.ErrDeep},
		{[]jval.Value{text("\xFF"), deep}, api.ErrForm},
		{[]jval.Value{deep, text("\xFF")}, api.ErrDeep},
		{[]jval.Value{null, text("\xFF"), null, deep}, api.ErrForm},
		{[]jval.Value{null, deep, null, text("\xFF")}, api.ErrDeep},
	} {
		if s, e := Lines(k.l); s != "" || e != k.want {
			t.Errorf("Lines(%.200v) is %q, %d, not %d", k.l, s, e, k.want)
		}
	}
}

// DOC.md, Ways: what is amiss is an error that wraps a number, with where.
func TestFault(t *testing.T) {
	err := checkForm(list(null, object("a", text("\xFF"))), 0)
	var f fault
	if !errors.As(err, &f) || f.in != 2 || !errors.Is(err, api.ErrForm) || errors.Is(err, api.ErrDeep) || err.Error() == "" {
		t.Error(err)
	}
	err = checkDepth(around(null, 99), 0)
	if !errors.As(err, &f) || f.in != api.MaxDepth || !errors.Is(err, api.ErrDeep) {
		t.Error(err)
	}
}

func expectSorted(t *testing.T, v, want jval.Value) {
	t.Helper()
	before := twin(v)
	got := Sorted(v)
	if !alike(got, want) {
		t.Errorf("Sorted(%+v) is %+v, not %+v", v, got, want)
	}
	if !alike(v, before) {
		t.Errorf("Sorted made %+v of %+v", v, before)
	}
	if again := Sorted(got); !alike(again, got) {
		t.Errorf("Sorted of %+v is %+v", got, again)
	}
}

// P7.2: Sorted of each kind, of objects within objects and lists.
func TestSorted(t *testing.T) {
	one, two := number(1), number(2)
	for _, v := range []jval.Value{null, jval.OfBool(true), one, text("b a"), list(), list(two, one), list(text("b"), text("a")), object(), object("a", two, "b", one)} {
		expectSorted(t, v, v)
	}
	mixed, rising := object("b", one, "a", two), object("a", two, "b", one)
	expectSorted(t, mixed, rising)
	expectSorted(t, list(mixed, one, mixed), list(rising, one, rising))
	expectSorted(t, object("a", mixed), object("a", rising))
	expectSorted(t, object("z", mixed, "y", list(list(mixed))), object("y", list(list(rising)), "z", rising))
	expectSorted(t, object("c", one, "b", object("y", mixed, "x", one), "a", list(two, mixed)),
		object("a", list(two, rising), "b", object("x", one, "y", rising), "c", one))
	expectSorted(t, object("b", one, "B", two, "", null), object("", null, "B", two, "b", one))
	// What is not right is sorted all the same.
	expectSorted(t, object("\xFF", one, "a", text("\xFF")), object("a", text("\xFF"), "\xFF", one))
	expectSorted(t, around(mixed, 30), around(rising, 30))
}

// P7.2: keys that are alike stand as they stood.
func TestSortedOfKeysAlike(t *testing.T) {
	n := func(i int) jval.Value { return number(int64(i)) }
	expectSorted(t, object("a", n(2), "a", n(1)), object("a", n(2), "a", n(1)))
	expectSorted(t, object("b", n(1), "a", n(4), "b", n(2), "a", n(3)), object("a", n(4), "a", n(3), "b", n(1), "b", n(2)))
	const many = 1000
	v := object()
	for i := range many {
		v.Keys = append(v.Keys, strconv.Itoa(i*7%5))
		v.Items = append(v.Items, n(i))
	}
	want := object()
	for key := range 5 {
		for i := range many {
			if i*7%5 == key {
				want.Keys = append(want.Keys, strconv.Itoa(key))
				want.Items = append(want.Items, n(i))
			}
		}
	}
	expectSorted(t, v, want)
}

// P7.2: an object whose Keys and Items are not as many stands as it stood;
// those within it are sorted.
func TestSortedOfObjectsByHand(t *testing.T) {
	one, two := number(1), number(2)
	mixed, rising := object("b", one, "a", two), object("a", two, "b", one)
	byHand := func(keys []string, items ...jval.Value) jval.Value {
		return jval.Value{Kind: jval.Object, Keys: keys, Items: items}
	}
	for _, keys := range [][]string{{"c", "b", "a"}, {"b"}, nil} {
		expectSorted(t, byHand(keys, mixed, one), byHand(keys, rising, one))
		expectSorted(t, object("z", byHand(keys, mixed, one), "y", null), object("y", null, "z", byHand(keys, rising, one)))
		expectSorted(t, list(byHand(keys, one, byHand(keys, mixed, mixed))), list(byHand(keys, one, byHand(keys, rising, rising))))
	}
	expectSorted(t, byHand([]string{"b", "a"}), byHand([]string{"b", "a"}))
}

// P7.2: what a kind does not have stays as it stood.
func TestSortedOfStrayParts(t *testing.T) {
	mixed, rising := object("b", number(1), "a", number(2)), object("a", number(2), "b", number(1))
	full := jval.Value{Is: true, N: 5, Text: "t", Items: []jval.Value{number(2), mixed}, Keys: []string{"y", "x"}}
	for _, kind := range append([]int{jval.Null, jval.Bool, jval.Number, jval.Text}, odd...) {
		v := full
		v.Kind = kind
		expectSorted(t, v, v)
		expectSorted(t, list(v, mixed), list(v, rising))
	}
	l := full
	l.Kind = jval.List
	want := l
	want.Items = []jval.Value{number(2), rising}
	expectSorted(t, l, want)
	o := full
	o.Kind = jval.Object
	want = o
	want.Keys, want.Items = []string{"x", "y"}, []jval.Value{rising, number(2)}
	expectSorted(t, o, want)
}

// Rules 4 and 5: no answer shares a list with an argument, nor two of one
// answer with one another.
func TestSortedSharesNothing(t *testing.T) {
	build := func() jval.Value {
		stray := jval.Value{Kind: jval.Text, Text: "t", Items: []jval.Value{list(number(1))}, Keys: []string{"s"}}
		short := jval.Value{Kind: jval.Object, Keys: []string{"b", "a"}, Items: []jval.Value{list(number(1))}}
		v := object("a", list(number(1), object("b", list(number(2)))), "c", stray, "b", short)
		// Room behind the lists, into which an append could write.
		v.Items = append(v.Items, null)[:3]
		v.Keys = append(v.Keys, "room")[:3]
		return v
	}
	for name, of := range map[string]func(v jval.Value) jval.Value{
		"itself":   func(v jval.Value) jval.Value { return v },
		"a list":   func(v jval.Value) jval.Value { return list(v, v) },
		"an item":  func(v jval.Value) jval.Value { return v.Items[0] },
		"a stray":  func(v jval.Value) jval.Value { return v.Items[1] },
		"by hand":  func(v jval.Value) jval.Value { return v.Items[2] },
		"in order": func(v jval.Value) jval.Value { return object("a", v, "b", v) },
	} {
		v := build()
		first := Sorted(of(v))
		want := twin(first)
		spoil(first)
		if !alike(v, build()) || v.Keys[:4][3] != "room" || !alike(v.Items[:4][3], null) {
			t.Errorf("%s: what was written into the answer is seen in the argument", name)
		}
		second := Sorted(of(v))
		if !alike(second, want) {
			t.Errorf("%s: what was written into an answer is seen in the next one", name)
		}
		spoil(v)
		if !alike(second, want) {
			t.Errorf("%s: what was written into the argument is seen in the answer", name)
		}
	}
	shared := list(object("a", list(number(1))))
	twice := Sorted(list(shared, shared))
	spoil(twice.Items[0])
	if !alike(twice.Items[1], shared) {
		t.Error("two lists of one answer are one")
	}
}

// some: a value by chance that is right, at most so deep.
func some(r *rand.Rand, depth int) jval.Value {
	texts := []string{"", "a", "b", "ab", "a!", "é", "😀", "\n", "\x00", `"`, `\`, "\u2028", "\uFFFF"}
	kinds := 6
	if depth == 0 {
		kinds = 4
	}
	switch kind := r.Intn(kinds); kind {
	case jval.Bool:
		return jval.OfBool(r.Intn(2) == 0)
	case jval.Number:
		return number(r.Int63() - r.Int63())
	case jval.Text:
		return text(texts[r.Intn(len(texts))] + texts[r.Intn(len(texts))])
	case jval.List, jval.Object:
		v := jval.Value{Kind: kind}
		for _, i := range r.Perm(len(texts))[:r.Intn(5)] {
			v.Items = append(v.Items, some(r, depth-1))
			if kind == jval.Object {
				v.Keys = append(v.Keys, texts[i])
			}
		}
		return v
	}
	return null
}

// shuffled: v with the pairs of all its objects in another order.
func shuffled(r *rand.Rand, v jval.Value) jval.Value {
	v = twin(v)
	if v.Kind == jval.Object {
		r.Shuffle(len(v.Keys), func(i, j int) {
			v.Keys[i], v.Keys[j] = v.Keys[j], v.Keys[i]
			v.Items[i], v.Items[j] = v.Items[j], v.Items[i]
		})
	}
	for i, x := range v.Items {
		v.Items[i] = shuffled(r, x)
	}
	return v
}

// P7.3: what is written is read as Sorted of the value, and written again it
// is the same, however its pairs stood.
func TestReadBack(t *testing.T) {
	r := rand.New(rand.NewSource(7))
	for range 3000 {
		v := some(r, 4)
		s, e := Encode(v)
		if e != api.OK || !json.Valid([]byte(s)) {
			t.Fatalf("Encode(%+v) is %s, %d", v, s, e)
		}
		got, _, e := jval.Parse(s, api.MaxDepth)
		if e != api.OK || !jval.Same(got, Sorted(v)) {
			t.Fatalf("%s is read as %+v, %d, not as %+v", s, got, e, Sorted(v))
		}
		for _, x := range []jval.Value{got, Sorted(v), shuffled(r, v)} {
			if again, e := Encode(x); again != s || e != api.OK {
				t.Fatalf("%s written again is %s, %d", s, again, e)
			}
		}
	}
}

// P7.3: texts of the same value, read and written, become one text.
func TestTextsOfTheSameValue(t *testing.T) {
	for _, k := range []struct {
		want  string
		texts []string
	}{
		{`{"a":[true],"b":1}`, []string{`{"b":1,"a":[true]}`, " {\n\t\"a\" : [ true ],\r\"b\":1 } ", `{"\u0062":1,"\u0061":[true]}`}},
		{"0", []string{"0", "-0", " 0 "}},
		{`"é😀/"`, []string{`"é😀/"`, `"\u00e9\ud83d\ude00\/"`, `"\u00E9\uD83D\uDE00/"`}},
		{`"\n\u001f"`, []string{`"\n\u001f"`, `"\u000A\u001F"`}},
		{`[{},[]]`, []string{"[ { } , [ ] ]", "[{},[]]"}},
		{`{"A":{"x":1,"y":2},"a":null}`, []string{`{"a":null,"A":{"y":2,"x":1}}`, `{"A":{"x":1,"y":2},"a":null}`}},
	} {
		for _, s := range k.texts {
			v, _, e := jval.Parse(s, api.MaxDepth)
			if e != api.OK {
				t.Fatalf("Parse(%s): %d", s, e)
			}
			expectText(t, v, k.want)
		}
	}
}

// P7.1, P7.3: an object of many keys is looked over, sorted and written in
// time that grows with them.
func TestManyKeys(t *testing.T) {
	const many = 200000
	v := object()
	for i := range many {
		v.Keys = append(v.Keys, strconv.Itoa(many-i))
		v.Items = append(v.Items, number(int64(i)))
	}
	s, e := Encode(v)
	if e != api.OK {
		t.Fatal(e)
	}
	got, _, e := jval.Parse(s, 1)
	if e != api.OK || !jval.Same(got, Sorted(v)) || !slices.IsSorted(got.Keys) {
		t.Error(e)
	}
	v.Keys[0] = v.Keys[many-1]
	if e := Right(v); e != api.ErrForm {
		t.Error(e)
	}
}

// P1, P7.3: no call panics, whatever the bytes; what is read can be written.
func FuzzEncode(f *testing.F) {
	for _, s := range []string{"", `{"b":1,"a":[true]}`, "[1,{}]", `"\ud83d\ude00"`, "[[[[[[[[[[[[[[[[]]]]]]]]]]]]]]]]", "\"\xFF\""} {
		f.Add(s)
	}
	f.Fuzz(func(t *testing.T, s string) {
		v, _, e := jval.Parse(s, api.MaxDepth)
		if e != api.OK {
			return
		}
		out, e := Encode(v)
		if e != api.OK {
			t.Fatalf("Encode of %q is %q, %d", s, out, e)
		}
		got, _, e := jval.Parse(out, api.MaxDepth)
		again, _ := Encode(got)
		if e != api.OK || !jval.Same(got, Sorted(v)) || again != out {
			t.Errorf("%q is written %q, and again %q", s, out, again)
		}
	})
}
