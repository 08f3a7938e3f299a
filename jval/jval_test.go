package jval

import (
	"math"
	"reflect"
	"slices"
	"strconv"
	"strings"
	"testing"

	"larum/api"
)

// odd are kinds that there are not.
var odd = []int{math.MinInt, -2, -1, 6, 7, 99, math.MaxInt}

func object(l ...any) Value {
	v := Value{Kind: Object}
	for i := 0; i < len(l); i += 2 {
		v.Keys = append(v.Keys, l[i].(string))
		v.Items = append(v.Items, l[i+1].(Value))
	}
	return v
}

func list(l ...Value) Value { return Value{Kind: List, Items: l} }

func text(s string) Value { return Value{Kind: Text, Text: s} }

func number(n int64) Value { return Value{Kind: Number, N: n} }

// alike: are all fields the same, whatever the kinds?
func alike(a, b Value) bool {
	return a.Kind == b.Kind && a.Is == b.Is && a.N == b.N && a.Text == b.Text && slices.Equal(a.Keys, b.Keys) && slices.EqualFunc(a.Items, b.Items, alike)
}

// twin: v with lists of its own.
func twin(v Value) Value {
	v.Keys = slices.Clone(v.Keys)
	v.Items = slices.Clone(v.Items)
	for i := range v.Items {
		v.Items[i] = twin(v.Items[i])
	}
	return v
}

// spoil writes into all lists of v, and behind them, as far as they reach.
func spoil(v Value) {
	for i := range v.Items {
		spoil(v.Items[i])
		v.Items[i] = Value{Kind: 77, Text: "spoilt"}
	}
	for i := range v.Keys {
		v.Keys[i] = "spoilt"
	}
	_ = append(v.Items, Value{Kind: 78})
	_ = append(v.Keys, "spoilt")
}

func expectValue(t *testing.T, s string, depth int, want Value) {
	t.Helper()
	if v, at, e := Parse(s, depth); !alike(v, want) || at != len(s) || e != api.OK {
		t.Errorf("Parse(%.80q, %d) is %+v, %d, %d, not %+v", s, depth, v, at, e, want)
	}
}

func expectFault(t *testing.T, s string, depth, at int, e api.Errno) {
	t.Helper()
	v, gat, ge := Parse(s, depth)
	if !reflect.DeepEqual(v, Value{}) || gat != at || ge != e {
		t.Errorf("Parse(%.80q, %d) is %+v, %d, %d, not nothing, %d, %d", s, depth, v, gat, ge, at, e)
	}
}

// expectForm: s is no value's text, from that place on, however deep it may be.
func expectForm(t *testing.T, s string, at int) {
	t.Helper()
	for _, depth := range []int{4, api.MaxDepth, math.MaxInt} {
		expectFault(t, s, depth, at, api.ErrForm)
	}
}

// P6.1: the kinds' numbers are those of the chapter.
func TestKinds(t *testing.T) {
	if kinds := []int{Null, Bool, Number, Text, List, Object}; !slices.Equal(kinds, []int{0, 1, 2, 3, 4, 5}) {
		t.Error(kinds)
	}
}

// P6.1: Parse of each kind of value, with blanks around it or not.
func TestParseOfEachKind(t *testing.T) {
	for _, k := range []struct {
		s    string
		want Value
	}{
		{"null", Value{}},
		{"true", Value{Kind: Bool, Is: true}},
		{"false", Value{Kind: Bool}},
		{"0", number(0)},
		{"-0", number(0)},
		{"-12", number(-12)},
		{"9223372036854775807", number(math.MaxInt64)},
		{"-9223372036854775808", number(math.MinInt64)},
		{`""`, text("")},
		{`"a\u00e9\n"`, text("aé\n")},
		{"[]", list()},
		{"[ ]", list()},
		{"[1]", list(number(1))},
		{`[1,"x",null,true]`, list(number(1), text("x"), Value{}, Value{Kind: Bool, Is: true})},
		{"[ 1 ,\n2\t]", list(number(1), number(2))},
		{"[[],[[]],{}]", list(list(), list(list()), object())},
		{"{}", object()},
		{"{ }", object()},
		{`{"a":1}`, object("a", number(1))},
		{`{"b":1,"a":2}`, object("b", number(1), "a", number(2))},
		{`{"":null}`, object("", Value{})},
		{`{ "a" : 1 , "b" : { "a" : [ ] } }`, object("a", number(1), "b", object("a", list()))},
		{`{"a":{"a":{"a":1}}}`, object("a", object("a", object("a", number(1))))},
		{`[{"a":1},{"a":1}]`, list(object("a", number(1)), object("a", number(1)))},
		{`{"a":"a","A":"A"}`, object("a", text("a"), "A", text("A"))},
		{`{"a":[1,{}]}`, object("a", list(number(1), object()))},
	} {
		for _, depth := range []int{3, 4, api.MaxDepth, api.MaxDepth + 1, math.MaxInt} {
			expectValue(t, k.s, depth, k.want)
			expectValue(t, " "+k.s, depth, k.want)
			expectValue(t, k.s+"\r\n", depth, k.want)
			expectValue(t, "\t\n"+k.s+" ", depth, k.want)
		}
	}
}

// P6.1: nothing, or blanks alone.
func TestParseOfNothing(t *testing.T) {
	for _, s := range []string{"", " ", "\t\n\r ", strings.Repeat(" ", 1000)} {
		for _, depth := range []int{math.MinInt, -1, 0, 1, api.MaxDepth, math.MaxInt} {
			expectFault(t, s, depth, len(s), api.ErrForm)
		}
	}
}

// P6.1: lists that are wrong, and where.
func TestParseOfWrongLists(t *testing.T) {
	expectForm(t, "[1,]", 3)
	expectForm(t, "[1 , ]", 5)
	expectForm(t, "[,]", 1)
	expectForm(t, "[,1]", 1)
	expectForm(t, "[1,,2]", 3)
	expectForm(t, "[1 2]", 3)
	expectForm(t, "[1[]]", 2)
	expectForm(t, "[1{}]", 2)
	expectForm(t, `["a""b"]`, 4)
	expectForm(t, "[1:2]", 2)
	expectForm(t, "[1}", 2)
	expectForm(t, "[}", 1)
	expectForm(t, "[:", 1)
	expectForm(t, "[[1,]]", 4)
	expectForm(t, "[{]", 2)
	for _, s := range []string{"[", "[ ", "[1", "[1 ", "[1,", "[1, ", "[[", "[[]", "[[],", "[1,2"} {
		expectForm(t, s, len(s))
	}
}

// P6.1: objects that are wrong, and where.
func TestParseOfWrongObjects(t *testing.T) {
	expectForm(t, `{"a":1,}`, 7)
	expectForm(t, `{,}`, 1)
	expectForm(t, `{,"a":1}`, 1)
	expectForm(t, `{"a":1,,"b":2}`, 7)
	expectForm(t, `{"a":1 "b":2}`, 7)
	expectForm(t, `{"a"}`, 4)
	expectForm(t, `{"a" 1}`, 5)
	expectForm(t, `{"a",1}`, 4)
	expectForm(t, `{"a"::1}`, 5)
	expectForm(t, `{"a":}`, 5)
	expectForm(t, `{"a":,"b":1}`, 5)
	expectForm(t, `{"a":1:2}`, 6)
	expectForm(t, `{"a":1]`, 6)
	expectForm(t, `{]`, 1)
	expectForm(t, `{:1}`, 1)
	expectForm(t, `{1:2}`, 1)
	expectForm(t, `{ null:2}`, 2)
	expectForm(t, `{true:2}`, 1)
	expectForm(t, `{[]:2}`, 1)
	expectForm(t, `{{}:2}`, 1)
	expectForm(t, `{"a":1,2:3}`, 7)
	expectForm(t, `{"a":1,[`, 7)
	for _, s := range []string{`{`, `{ `, `{"a"`, `{"a" `, `{"a":`, `{"a": `, `{"a":1`, `{"a":1 `, `{"a":1,`, `{"a":1,"b"`, `{"a":{}`, `[{"a":1}`} {
		expectForm(t, s, len(s))
	}
}

// P6.1: what may begin no value.
func TestParseOfWrongBeginnings(t *testing.T) {
	for _, s := range []string{"}", "]", ":", ","} {
		for _, depth := range []int{-1, 0, 1, api.MaxDepth} {
			expectFault(t, s, depth, 0, api.ErrForm)
			expectFault(t, " "+s+"1", depth, 1, api.ErrForm)
		}
	}
}

// P6.1: a key that was there ahead, as the text that it stands for, is told
// where it stands, whatever is behind it.
func TestParseOfKeysTwice(t *testing.T) {
	expectForm(t, `{"a":1,"a":2}`, 7)
	expectForm(t, `{"a":1,"b":2,  "a":3}`, 15)
	expectForm(t, `{"a":1,"b":2,"b":3}`, 13)
	expectForm(t, `{"":1,"":2}`, 6)
	expectForm(t, `{"a":1,"\u0061":2}`, 7)
	expectForm(t, `{"é":1,"\u00e9":2}`, 8)
	expectForm(t, `{"a":1,"a"`, 7)
	expectForm(t, `{"a":1,"a" x`, 7)
	expectForm(t, `{"a":1,"a":99999999999999999999}`, 7)
	expectForm(t, `[{"x":{"a":1,"a":2}}]`, 13)
	expectForm(t, `{"a":{"b":1},"a":2}`, 13)
	// Within one that is in it a key may stand again.
	expectValue(t, `{"a":{"a":1},"b":{"a":1}}`, 2, object("a", object("a", number(1)), "b", object("a", number(1))))
	// One that is no text is no key, even where the text of nothing was one.
	expectForm(t, `{"":1,1:2}`, 6)
	expectForm(t, `{"":1,}`, 6)
}

// P6.1: an object of many keys is read in time that grows with them.
func TestParseOfManyKeys(t *testing.T) {
	const many = 200000
	var b strings.Builder
	for i := range many {
		b.WriteString(`,"k` + strconv.Itoa(i) + `":` + strconv.Itoa(i))
	}
	s := "{" + b.String()[1:]
	v, at, e := Parse(s+"}", 1)
	if len(v.Keys) != many || len(v.Items) != many || at != len(s)+1 || e != api.OK {
		t.Fatal(len(v.Keys), len(v.Items), at, e)
	}
	if x, ok := Get(v, "k199999"); !ok || x.N != many-1 {
		t.Error(x, ok)
	}
	expectForm(t, s+`,"k100":0}`, len(s)+1)
}

// P6.1: tokens that are wrong themselves, with their errors, and where.
func TestParseOfWrongTokens(t *testing.T) {
	for _, k := range []struct {
		s  string
		at int
		e  api.Errno
	}{
		{"x", 0, api.ErrForm},
		{" nul", 1, api.ErrForm},
		{"truer", 0, api.ErrForm},
		{"01", 0, api.ErrForm},
		{"1.5", 0, api.ErrForm},
		{"\t+1", 1, api.ErrForm},
		{`"a`, 0, api.ErrForm},
		{"\"\n\"", 0, api.ErrForm},
		{"[\xFF]", 1, api.ErrForm},
		{"[\"\xFF\"]", 1, api.ErrForm},
		{`[1, "\ud83d"]`, 4, api.ErrForm},
		{`{"a":1, "\x":2}`, 8, api.ErrForm},
		{`{x`, 1, api.ErrForm},
		{`{"a" x`, 5, api.ErrForm},
		{`{"a": x`, 6, api.ErrForm},
		{`{"a": 1 x`, 8, api.ErrForm},
		{`{"a": 1, x`, 9, api.ErrForm},
		{"9223372036854775808", 0, api.ErrLong},
		{" -9223372036854775809", 1, api.ErrLong},
		{"[1, 9223372036854775808]", 4, api.ErrLong},
		{`{"a":  99999999999999999999}`, 7, api.ErrLong},
		// Its own error comes ahead of its not fitting.
		{"[1 99999999999999999999]", 3, api.ErrLong},
		{"{ 99999999999999999999", 2, api.ErrLong},
		{`{"a" 99999999999999999999`, 5, api.ErrLong},
		{`{"a":1 99999999999999999999`, 7, api.ErrLong},
		// The first one that does not fit counts.
		{"[,99999999999999999999]", 1, api.ErrForm},
		{"[99999999999999999999,,]", 1, api.ErrLong},
		{"[[[[[[[[[[ x", 11, api.ErrForm},
	} {
		expectFault(t, k.s, api.MaxDepth, k.at, k.e)
	}
}

// P6.1: what stands behind the value.
func TestParseOfMore(t *testing.T) {
	for _, v := range []string{"null", "true", "7", `"a"`, "[]", "[1,2]", "{}", `{"a":1}`} {
		for _, more := range []string{"{", "}", "[", "]", ":", ",", `"x"`, "1", "true", "null", "{}", "[]", "x", "nul", "01", `"a`, "\xFF", "\x00"} {
			for _, depth := range []int{1, api.MaxDepth} {
				expectFault(t, v+" "+more, depth, len(v)+1, api.ErrForm)
				expectFault(t, v+"\r\n "+more+" ", depth, len(v)+3, api.ErrForm)
			}
		}
		expectFault(t, v+" 9223372036854775808", api.MaxDepth, len(v)+1, api.ErrLong)
	}
	// No room at all makes no difference there.
	expectFault(t, "1 [", 0, 2, api.ErrForm)
	expectFault(t, "1 {", -5, 2, api.ErrForm)
	expectFault(t, "[] [[", 1, 3, api.ErrForm)
}

// P6.1: depths: none, just enough, one too few, below 0, above MaxDepth.
func TestParseByDepth(t *testing.T) {
	expectValue(t, `{"a":[1,{}]}`, 3, object("a", list(number(1), object())))
	expectFault(t, `{"a":[1,{}]}`, 2, 8, api.ErrDeep)
	expectFault(t, `{"a":[1,{}]}`, 1, 5, api.ErrDeep)
	for _, depth := range []int{0, -1, -2, math.MinInt32, math.MinInt, math.MinInt + 1} {
		expectFault(t, `{"a":[1,{}]}`, depth, 0, api.ErrDeep)
		expectFault(t, "  []", depth, 2, api.ErrDeep)
		expectFault(t, "{", depth, 0, api.ErrDeep)
		expectFault(t, "[x", depth, 0, api.ErrDeep)
		expectValue(t, "1", depth, number(1))
		expectValue(t, " null ", depth, Value{})
		expectValue(t, `"[{"`, depth, text("[{"))
		expectFault(t, "]", depth, 0, api.ErrForm)
	}
	expectFault(t, "[[[[]]]]", 3, 3, api.ErrDeep)
	expectFault(t, "[1, [2, [3]], 4]", 2, 8, api.ErrDeep)
	expectFault(t, "[1, [2], [3, {}]]", 2, 13, api.ErrDeep)
	expectValue(t, "[[],[],[]]", 2, list(list(), list(), list()))
	// What ended leaves its room to the next one.
	expectValue(t, `[{},{"a":[]},[[]]]`, 3, list(object(), object("a", list()), list(list())))
}

// P6.1: MaxDepth holds, whatever depth is asked for.
func TestParseAtMaxDepth(t *testing.T) {
	for n := 1; n <= api.MaxDepth+4; n++ {
		lists := strings.Repeat("[", n) + strings.Repeat("]", n)
		objects := strings.Repeat(`{"a":`, n-1) + "{" + strings.Repeat("}", n)
		for _, depth := range []int{n, n + 1, api.MaxDepth, api.MaxDepth + 1, 1000, math.MaxInt} {
			most := min(depth, api.MaxDepth)
			if n > most {
				expectFault(t, lists, depth, most, api.ErrDeep)
				expectFault(t, objects, depth, 5*most, api.ErrDeep)
				continue
			}
			for _, s := range []string{lists, objects} {
				if v, at, e := Parse(s, depth); Depth(v) != n || at != len(s) || e != api.OK {
					t.Errorf("Parse(%s, %d) is %+v, %d, %d", s, depth, v, at, e)
				}
			}
		}
		expectFault(t, lists, n-1, min(n-1, api.MaxDepth), api.ErrDeep)
	}
	// So deep that only one who stops at once can tell it.
	expectFault(t, strings.Repeat("[", 1<<20), math.MaxInt, api.MaxDepth, api.ErrDeep)
	expectFault(t, strings.Repeat(`{"a":`, 1<<18), math.MaxInt, 5*api.MaxDepth, api.ErrDeep)
}

// P1, P6.1: an Open or List that may not stand there is ErrForm, which is
// named first, and not ErrDeep.
func TestFormIsToldAheadOfDepth(t *testing.T) {
	expectFault(t, "{[", 1, 1, api.ErrForm)
	expectFault(t, "{{", 1, 1, api.ErrForm)
	expectFault(t, "[1[", 1, 2, api.ErrForm)
	expectFault(t, "[1{", 1, 2, api.ErrForm)
	expectFault(t, `{"a"[`, 1, 4, api.ErrForm)
	expectFault(t, `{"a":1{`, 1, 6, api.ErrForm)
	expectFault(t, `{"a":1,{`, 1, 7, api.ErrForm)
	expectFault(t, `{"a":[`, 1, 5, api.ErrDeep)
	expectFault(t, `[1,[`, 1, 3, api.ErrDeep)
}

// model reads a row of tokens as a machine with a stack: which of them is the
// first that does not fit, and its error; all of them, if one is missing.
func model(row []string, depth int) (int, api.Errno) {
	const value, first, key, colon, behind, end = 0, 1, 2, 3, 4, 5
	state, stack := value, []string{}
	var keys [][]string
	for i, s := range row {
		top := ""
		if len(stack) > 0 {
			top = stack[len(stack)-1]
		}
		wants := state == value || state == first && top == "["
		wantsKey := state == key || state == first && top == "{"
		isText := s[0] == '"'
		closes := s == "]" && top == "[" || s == "}" && top == "{"
		switch {
		case closes && (state == first || state == behind):
			stack, keys = stack[:len(stack)-1], keys[:len(keys)-1]
			state = behind
		case wants && (s == "[" || s == "{"):
			if len(stack) >= depth {
				return i, api.ErrDeep
			}
			stack, keys = append(stack, s), append(keys, nil)
			state = first
			continue
		case wants && (isText || s == "1"):
			state = behind
		case wantsKey && isText && !slices.Contains(keys[len(keys)-1], s):
			keys[len(keys)-1] = append(keys[len(keys)-1], s)
			state = colon
			continue
		case state == colon && s == ":":
			state = value
			continue
		case state == behind && s == ",":
			state = value
			if top == "{" {
				state = key
			}
			continue
		default:
			return i, api.ErrForm
		}
		if len(stack) == 0 {
			state = end
		}
	}
	if state != end {
		return len(row), api.ErrForm
	}
	return len(row), api.OK
}

// P6.1: all rows of up to seven tokens, as the model reads them. A row that
// has gone wrong is not made longer by more than one token.
func TestParseOfEveryRow(t *testing.T) {
	tokens := []string{"{", "}", "[", "]", ":", ",", `"a"`, `"b"`, "1"}
	right := 0
	rows := [][]string{nil}
	for range 7 {
		var longer [][]string
		for _, row := range rows {
			for _, s := range tokens {
				next := append(slices.Clone(row), s)
				at, e := model(next, 2)
				expectRow(t, next, 2, at, e)
				if e == api.OK {
					right++
				}
				if at >= len(next)-1 {
					longer = append(longer, next)
				}
			}
		}
		rows = longer
	}
	if right < 100 {
		t.Errorf("only %d rows were right", right)
	}
}

func expectRow(t *testing.T, row []string, depth, at int, e api.Errno) {
	t.Helper()
	s := strings.Join(row, " ")
	place := len(strings.Join(row[:at], " "))
	if 0 < at && at < len(row) {
		place++
	}
	if v, gat, ge := Parse(s, depth); gat != place || ge != e || e != api.OK && !alike(v, Value{}) {
		t.Fatalf("Parse(%s, %d) is %+v, %d, %d, not %d, %d", s, depth, v, gat, ge, place, e)
	}
}

// Rule 4: what is written into an answer of Parse is seen by no later one.
func TestParseIsNew(t *testing.T) {
	const s = `{"a":[1,[2]],"b":{"c":[]}}`
	want := object("a", list(number(1), list(number(2))), "b", object("c", list()))
	v, _, _ := Parse(s, 3)
	spoil(v)
	expectValue(t, s, 3, want)
}

func expectGet(t *testing.T, v Value, key string, want Value, ok bool) {
	t.Helper()
	if got, gok := Get(v, key); !alike(got, want) || gok != ok {
		t.Errorf("Get(%+v, %q) is %+v, %v, not %+v, %v", v, key, got, gok, want, ok)
	}
}

// P6.2: Get of objects.
func TestGet(t *testing.T) {
	v := object("a", number(1), "b", list(text("x")), "", text("empty"), "é", Value{})
	expectGet(t, v, "a", number(1), true)
	expectGet(t, v, "b", list(text("x")), true)
	expectGet(t, v, "", text("empty"), true)
	expectGet(t, v, "é", Value{}, true)
	expectGet(t, v, "A", Value{}, false)
	expectGet(t, v, "a ", Value{}, false)
	expectGet(t, v, "x", Value{}, false)
	expectGet(t, v, "\xFF", Value{}, false)
	expectGet(t, object(), "", Value{}, false)
	expectGet(t, object("a", object("b", number(1))), "b", Value{}, false)
}

// P6.2: Get of what is no object, though it has Keys and Items.
func TestGetOfNoObject(t *testing.T) {
	for _, kind := range append([]int{Null, Bool, Number, Text, List}, odd...) {
		v := object("a", number(1))
		v.Kind = kind
		expectGet(t, v, "a", Value{}, false)
	}
}

// P6.2: Get of objects made by hand: keys twice, Keys and Items not as many.
func TestGetOfObjectsByHand(t *testing.T) {
	twice := object("a", number(1), "b", number(2), "a", number(3))
	expectGet(t, twice, "a", number(1), true)
	long := Value{Kind: Object, Keys: []string{"a", "b", "c", "a"}, Items: []Value{number(1)}}
	expectGet(t, long, "a", number(1), true)
	expectGet(t, long, "b", Value{}, false)
	expectGet(t, long, "c", Value{}, false)
	expectGet(t, long, "d", Value{}, false)
	short := Value{Kind: Object, Keys: []string{"a"}, Items: []Value{number(1), number(2)}}
	expectGet(t, short, "a", number(1), true)
	expectGet(t, short, "", Value{}, false)
	expectGet(t, Value{Kind: Object, Keys: []string{"a"}}, "a", Value{}, false)
	expectGet(t, Value{Kind: Object, Items: []Value{number(1)}}, "", Value{}, false)
	strange := Value{Kind: 42, Text: "t", Items: []Value{number(1)}}
	expectGet(t, object("a", strange), "a", strange, true)
}

func expectSame(t *testing.T, a, b Value, want bool) {
	t.Helper()
	if Same(a, b) != want || Same(b, a) != want {
		t.Errorf("Same(%+v, %+v) is not %v", a, b, want)
	}
}

// P6.2: Same of all pairs of different values, and of each with itself.
func TestSame(t *testing.T) {
	l := []Value{
		{}, {Kind: Bool}, {Kind: Bool, Is: true}, number(0), number(1), number(-1), text(""), text("a"), text("A"), text("é"), text("e\u0301"), text("\xFF"), text("1"),
		list(), list(Value{}), list(Value{}, Value{}), list(number(1), number(2)), list(number(2), number(1)), list(number(1)), list(list()), list(list(number(1))),
		object(), object("a", Value{}), object("b", Value{}), object("a", number(1)), object("a", number(1), "b", number(2)), object("b", number(2), "a", number(1)),
		object("a", number(2), "b", number(1)), object("a", list(number(1))), object("a", object()), list(object()), object("a", Value{}, "a", Value{}),
	}
	for _, kind := range odd {
		l = append(l, Value{Kind: kind})
	}
	for i, a := range l {
		for j, b := range l {
			expectSame(t, a, twin(b), i == j)
			expectSame(t, list(number(0), a), list(number(0), b), i == j)
			expectSame(t, object("x", a, "y", number(0)), object("x", b, "y", number(0)), i == j)
		}
	}
}

// P6.2: what a kind does not have counts for nothing in Same.
func TestSameOfStrayParts(t *testing.T) {
	full := Value{Is: true, N: 5, Text: "t", Items: []Value{number(1)}, Keys: []string{"k"}}
	for _, kind := range append([]int{Null}, odd...) {
		a := full
		a.Kind = kind
		expectSame(t, a, Value{Kind: kind}, true)
	}
	for _, k := range []struct{ plain, other Value }{
		{Value{Kind: Bool, Is: true}, Value{Kind: Bool}},
		{number(5), number(6)},
		{text("t"), text("u")},
		{list(number(1)), list(number(2))},
		{object("k", number(1)), object("k", number(2))},
	} {
		a := full
		a.Kind = k.plain.Kind
		expectSame(t, a, k.plain, true)
		expectSame(t, a, k.other, false)
	}
}

// P6.2: Same of objects whose Keys and Items are not as many.
func TestSameOfObjectsByHand(t *testing.T) {
	l := []Value{
		object("a", number(1)),
		{Kind: Object, Keys: []string{"a", "b"}, Items: []Value{number(1)}},
		{Kind: Object, Keys: []string{"a"}, Items: []Value{number(1), number(2)}},
		{Kind: Object, Keys: []string{"a"}},
		{Kind: Object, Items: []Value{number(1)}},
		object(),
	}
	for i, a := range l {
		for j, b := range l {
			expectSame(t, a, twin(b), i == j)
		}
	}
	expectSame(t, Value{Kind: List, Items: []Value{}, Keys: []string{}}, Value{Kind: List}, true)
	expectSame(t, Value{Kind: Object, Items: []Value{}, Keys: []string{}}, Value{Kind: Object}, true)
}

// P6.2: OfText, OfNumber, OfBool and OfList.
func TestOf(t *testing.T) {
	for _, s := range []string{"", "a", "é", "\xFF", "\x00"} {
		if v := OfText(s); !reflect.DeepEqual(v, Value{Kind: Text, Text: s}) {
			t.Errorf("OfText(%q) is %+v", s, v)
		}
	}
	for _, n := range []int64{0, 1, -1, math.MaxInt64, math.MinInt64} {
		if v := OfNumber(n); !reflect.DeepEqual(v, Value{Kind: Number, N: n}) {
			t.Errorf("OfNumber(%d) is %+v", n, v)
		}
	}
	for _, b := range []bool{false, true} {
		if v := OfBool(b); !reflect.DeepEqual(v, Value{Kind: Bool, Is: b}) {
			t.Errorf("OfBool(%v) is %+v", b, v)
		}
	}
	strange := Value{Kind: -3, Keys: []string{"k"}}
	for _, l := range [][]Value{nil, {}, {{}}, {number(1), text("a")}, {list(list()), object("a", list())}, {strange, strange}} {
		if v := OfList(l...); !alike(v, Value{Kind: List, Items: l}) {
			t.Errorf("OfList of %+v is %+v", l, v)
		}
	}
	if v := OfList(); !alike(v, list()) {
		t.Errorf("OfList() is %+v", v)
	}
}

func expectWith(t *testing.T, v Value, key string, x, want Value) {
	t.Helper()
	before := twin(v)
	got := With(v, key, x)
	if !alike(got, want) {
		t.Errorf("With(%+v, %q, %+v) is %+v, not %+v", v, key, x, got, want)
	}
	if !alike(v, before) {
		t.Errorf("With of %q made %+v of %+v", key, v, before)
	}
	expectGet(t, got, key, x, true)
}

// P6.2: With of objects: in the place of the key, or behind all.
func TestWith(t *testing.T) {
	v := object("a", number(1), "b", number(2))
	expectWith(t, v, "a", text("x"), object("a", text("x"), "b", number(2)))
	expectWith(t, v, "b", text("x"), object("a", number(1), "b", text("x")))
	expectWith(t, v, "c", text("x"), object("a", number(1), "b", number(2), "c", text("x")))
	expectWith(t, v, "", Value{}, object("a", number(1), "b", number(2), "", Value{}))
	expectWith(t, v, "A", Value{}, object("a", number(1), "b", number(2), "A", Value{}))
	expectWith(t, v, "a", v, object("a", v, "b", number(2)))
	expectWith(t, object(), "a", list(number(1)), object("a", list(number(1))))
	expectWith(t, object("a", object("b", number(1))), "b", number(2), object("a", object("b", number(1)), "b", number(2)))
}

// P6.2: With of what is no object: an empty one, with the key.
func TestWithOfNoObject(t *testing.T) {
	for _, kind := range append([]int{Null, Bool, Number, Text, List}, odd...) {
		v := Value{Kind: kind, Is: true, N: 1, Text: "t", Items: []Value{number(1)}, Keys: []string{"a"}}
		expectWith(t, v, "a", number(2), object("a", number(2)))
		expectWith(t, v, "b", number(2), object("b", number(2)))
		expectWith(t, Value{Kind: kind}, "a", Value{}, object("a", Value{}))
	}
}

// P6.2: With of objects made by hand: the first such key has x, in its place,
// and each other key what it had.
func TestWithOfObjectsByHand(t *testing.T) {
	twice := object("a", number(1), "b", number(2), "a", number(3))
	expectWith(t, twice, "a", number(9), object("a", number(9), "b", number(2), "a", number(3)))
	long := Value{Kind: Object, Keys: []string{"a", "b", "c"}, Items: []Value{number(1)}}
	expectWith(t, long, "a", number(9), Value{Kind: Object, Keys: long.Keys, Items: []Value{number(9)}})
	expectWith(t, long, "b", number(9), Value{Kind: Object, Keys: long.Keys, Items: []Value{number(1), number(9)}})
	expectWith(t, long, "c", number(9), object("a", number(1), "b", Value{}, "c", number(9)))
	expectWith(t, long, "d", number(9), object("a", number(1), "b", Value{}, "c", Value{}, "d", number(9)))
	short := Value{Kind: Object, Keys: []string{"a"}, Items: []Value{number(1), number(2), number(3)}}
	expectWith(t, short, "a", number(9), Value{Kind: Object, Keys: short.Keys, Items: []Value{number(9), number(2), number(3)}})
	expectWith(t, short, "b", number(9), Value{Kind: Object, Keys: []string{"a", "b"}, Items: []Value{number(1), number(9), number(3)}})
	expectWith(t, Value{Kind: Object, Keys: []string{"a"}}, "a", number(9), object("a", number(9)))
	expectWith(t, Value{Kind: Object, Items: []Value{number(1)}}, "a", number(9), object("a", number(9)))
	for _, kind := range odd {
		strange := Value{Kind: kind, Text: "t", Keys: []string{"x", "y"}, Items: []Value{number(1)}}
		expectWith(t, object("a", strange), "a", strange, object("a", strange))
		expectWith(t, object("a", strange), "b", strange, object("a", strange, "b", strange))
	}
}

// P6.2: Depth.
func TestDepth(t *testing.T) {
	for _, k := range []struct {
		v    Value
		want int
	}{
		{Value{}, 0},
		{Value{Kind: Bool, Is: true}, 0},
		{number(7), 0},
		{text("[[]]"), 0},
		{list(), 1},
		{object(), 1},
		{list(number(1)), 1},
		{object("a", number(1)), 1},
		{list(list()), 2},
		{list(object()), 2},
		{object("a", list()), 2},
		{list(list(list()), list()), 3},
		{list(list(), list(list()), number(1)), 3},
		{object("a", list(number(1), object())), 3},
		// All Items count, those without a key too; Keys do not.
		{Value{Kind: Object, Items: []Value{list()}}, 2},
		{Value{Kind: Object, Keys: []string{"a", "b"}}, 1},
		// What a kind does not have counts for nothing.
		{Value{Kind: Text, Items: []Value{list()}}, 0},
		{Value{Items: []Value{list()}, Keys: []string{"a"}}, 0},
		{list(Value{Kind: Number, Items: []Value{list()}}), 1},
	} {
		if got := Depth(k.v); got != k.want {
			t.Errorf("Depth(%+v) is %d, not %d", k.v, got, k.want)
		}
	}
	for _, kind := range odd {
		if got := Depth(Value{Kind: kind, Items: []Value{list(list())}}); got != 0 {
			t.Errorf("Depth of kind %d is %d", kind, got)
		}
	}
}

// P1: values made by hand that are as deep as the document bounds them.
func TestDeepValues(t *testing.T) {
	const deep = 1 << 16
	v := Value{}
	for i := range deep {
		if i%2 == 0 {
			v = Value{Kind: List, Items: []Value{v}}
		} else {
			v = Value{Kind: Object, Items: []Value{v}, Keys: []string{"a"}}
		}
	}
	if got := Depth(v); got != deep {
		t.Error(got)
	}
	if !Same(v, v) || Same(v, list(v)) {
		t.Error("Same")
	}
	if x, ok := Get(v, "a"); Depth(x) != deep-1 || !ok {
		t.Error("Get")
	}
	if Depth(With(v, "b", v)) != deep+1 || Depth(OfList(v, v)) != deep+1 {
		t.Error("With, OfList")
	}
}

// Rules 4 and 5: no answer shares a list with an argument, nor two of one
// answer with one another.
func TestAnswersShareNothing(t *testing.T) {
	build := func() Value {
		stray := Value{Kind: Text, Text: "t", Items: []Value{list(number(1))}, Keys: []string{"s"}}
		v := object("a", list(number(1), object("b", list(number(2)))), "c", stray)
		// Room behind the lists, into which an append could write.
		v.Items = append(v.Items, Value{})[:2]
		v.Keys = append(v.Keys, "room")[:2]
		return v
	}
	for name, call := range map[string]func(v, x Value) Value{
		"Get":           func(v, x Value) Value { got, _ := Get(v, "a"); return got },
		"Get of stray":  func(v, x Value) Value { got, _ := Get(v, "c"); return got },
		"OfList":        func(v, x Value) Value { return OfList(v, x, v) },
		"OfList spread": func(v, x Value) Value { return OfList(v.Items...) },
		"With":          func(v, x Value) Value { return With(v, "a", x) },
		"With more":     func(v, x Value) Value { return With(v, "z", x) },
		"With itself":   func(v, x Value) Value { return With(v, "z", v) },
		"With none":     func(v, x Value) Value { return With(text("t"), "z", x) },
	} {
		v, x := build(), build()
		first := call(v, x)
		want := twin(first)
		spoil(first)
		if !alike(v, build()) || !alike(x, build()) {
			t.Errorf("%s: what was written into the answer is seen in an argument", name)
		}
		if v.Keys[:3][2] != "room" || !alike(v.Items[:3][2], Value{}) {
			t.Errorf("%s: something was written behind an argument's list", name)
		}
		second := call(v, x)
		if !alike(second, want) {
			t.Errorf("%s: what was written into an answer is seen in the next one", name)
		}
		spoil(v)
		spoil(x)
		if !alike(second, want) {
			t.Errorf("%s: what was written into an argument is seen in the answer", name)
		}
	}
	v := OfList(list(number(1)), list(number(1)))
	twice := OfList(v, v)
	spoil(twice.Items[0])
	if !alike(twice.Items[1], v) {
		t.Error("two lists of one answer are one")
	}
}

// P1: no call panics, whatever the bytes; a place is within the text.
func FuzzParse(f *testing.F) {
	for _, s := range []string{"", `{"a":[1,{}]}`, "[1,]", `{"a":1,"a":2}`, "[[[", "1 x", "\"\xFF"} {
		f.Add(s, 3)
	}
	f.Fuzz(func(t *testing.T, s string, depth int) {
		v, at, e := Parse(s, depth)
		if at < 0 || at > len(s) || e == api.OK && (at != len(s) || Depth(v) > max(0, min(depth, api.MaxDepth))) {
			t.Errorf("Parse(%q, %d) is %+v, %d, %d", s, depth, v, at, e)
		}
		if e != api.OK && (!alike(v, Value{}) || e != api.ErrForm && e != api.ErrDeep && e != api.ErrLong) {
			t.Errorf("Parse(%q, %d) is %+v, %d, %d", s, depth, v, at, e)
		}
	})
}
