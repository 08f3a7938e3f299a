package regex

import (
	"math"
	"math/big"
	"math/rand"
	"slices"
	"strings"
	"testing"

	"larum/api"
)

// take: a state that goes over one rune of these spans.
func take(to int, l ...rune) State { return State{Kind: Take, Spans: spans(l...), One: to} }

// only: a state that goes over just this rune.
func only(r rune, to int) State { return take(to, r, r) }

func split(first, second int) State { return State{Kind: Split, One: first, Two: second} }

var halt = State{Kind: Halt}

// expectMachine: n makes these states behind the Halt, and begins at at.
func expectMachine(t *testing.T, n Node, at int, want ...State) {
	t.Helper()
	l, begin, e := Compile(n)
	if !slices.EqualFunc(l, append([]State{halt}, want...), sameState) || begin != at || e != api.OK {
		t.Errorf("Compile(%+v) is %+v, %d, %d, not %+v, %d", n, l, begin, e, want, at)
	}
	if got := Size(n); got != len(want) {
		t.Errorf("Size(%+v) is %d, not %d", n, got, len(want))
	}
}

func expectSize(t *testing.T, n Node, want int) {
	t.Helper()
	if got := Size(n); got != want {
		t.Errorf("Size(%+v) is %d, not %d", n, got, want)
	}
}

// P15.2: states and where they begin, of each kind, as the chapter tells.
func TestCompile(t *testing.T) {
	expectMachine(t, none, 0)
	expectMachine(t, a, 1, only('a', 0))
	expectMachine(t, point, 1, State{Kind: Take, Not: true})
	expectMachine(t, of(), 1, take(0))
	expectMachine(t, word, 1, take(0, 'a', 'z', 'A', 'Z', '0', '9', '_', '_'))
	expectMachine(t, not('z', 'a', 'b', 'c'), 1, State{Kind: Take, Not: true, Spans: spans('z', 'a', 'b', 'c')})
	// The last kid is made first.
	expectMachine(t, concat(a, b, c), 3, only('c', 0), only('b', 1), only('a', 2))
	expectMachine(t, either(a, b), 3, only('b', 0), only('a', 0), split(2, 1))
	expectMachine(t, either(a, b, c), 5, only('c', 0), only('b', 0), split(2, 1), only('a', 0), split(4, 3))
	expectMachine(t, concat(either(a, b), c), 4, only('c', 0), only('b', 1), only('a', 1), split(3, 2))
	expectMachine(t, either(concat(a, b), c), 4, only('c', 0), only('b', 0), only('a', 2), split(3, 1))
}

// P15.2: states of a Repeat, from Least up to Most times.
func TestCompileOfRepeat(t *testing.T) {
	expectMachine(t, repeat(0, -1, a), 1, split(2, 0), only('a', 1))
	expectMachine(t, repeat(1, -1, a), 2, split(2, 0), only('a', 1))
	expectMachine(t, repeat(2, -1, a), 3, split(2, 0), only('a', 1), only('a', 2))
	expectMachine(t, repeat(4, -1, a), 5, split(2, 0), only('a', 1), only('a', 2), only('a', 3), only('a', 4))
	expectMachine(t, repeat(0, 0, a), 0)
	expectMachine(t, repeat(1, 1, a), 1, only('a', 0))
	expectMachine(t, repeat(3, 3, a), 3, only('a', 0), only('a', 1), only('a', 2))
	expectMachine(t, repeat(0, 1, a), 2, only('a', 0), split(1, 0))
	expectMachine(t, repeat(0, 2, a), 4, only('a', 0), split(1, 0), only('a', 2), split(3, 0))
	expectMachine(t, repeat(1, 2, a), 3, only('a', 0), split(1, 0), only('a', 2))
	expectMachine(t, repeat(2, 4, a), 6, only('a', 0), split(1, 0), only('a', 2), split(3, 0), only('a', 4), only('a', 5))
	// The whole goes on to what stands behind it, not to the Halt.
	expectMachine(t, concat(repeat(0, -1, a), b), 2, only('b', 0), split(3, 1), only('a', 2))
	expectMachine(t, concat(repeat(1, -1, a), b), 3, only('b', 0), split(3, 1), only('a', 2))
	expectMachine(t, concat(repeat(0, 2, a), b), 5, only('b', 0), only('a', 1), split(2, 1), only('a', 3), split(4, 1))
	expectMachine(t, concat(c, repeat(1, 1, a), b), 3, only('b', 0), only('a', 1), only('c', 2))
	// What is repeated may have more states, and be a Repeat itself.
	expectMachine(t, repeat(0, -1, concat(a, b)), 1, split(3, 0), only('b', 1), only('a', 2))
	expectMachine(t, repeat(2, -1, either(a, b)), 7, split(4, 0), only('b', 1), only('a', 1), split(3, 2), only('b', 4), only('a', 4), split(6, 5))
	expectMachine(t, repeat(0, -1, repeat(0, -1, a)), 1, split(2, 0), split(3, 1), only('a', 2))
	expectMachine(t, repeat(1, 2, repeat(0, 1, a)), 5, only('a', 0), split(1, 0), split(2, 0), only('a', 3), split(4, 3))
}

// P15.2: kids that make no state lead where they go on to.
func TestCompileOfNothing(t *testing.T) {
	for _, n := range []Node{concat(), either(), concat(none), either(none), concat(none, concat(), either()), repeat(0, 0, a), repeat(16, 16, none), repeat(0, 0, none), repeat(3, 3, repeat(0, 0, either(a, b)))} {
		expectMachine(t, n, 0)
		expectMachine(t, concat(n, a, n, b, n), 2, only('b', 0), only('a', 1))
		expectMachine(t, either(n, a), 2, only('a', 0), split(0, 1))
		expectMachine(t, either(a, n), 2, only('a', 0), split(1, 0))
		expectMachine(t, either(n, n, n), 2, split(0, 0), split(0, 1))
		expectMachine(t, concat(either(n, a), b), 3, only('b', 0), only('a', 1), split(1, 2))
		expectMachine(t, repeat(0, -1, n), 1, split(1, 0))
		expectMachine(t, repeat(1, -1, n), 1, split(1, 0))
		expectMachine(t, repeat(16, -1, n), 1, split(1, 0))
		expectMachine(t, repeat(0, 1, n), 1, split(0, 0))
		expectMachine(t, repeat(0, 2, n), 2, split(0, 0), split(1, 0))
		expectMachine(t, repeat(1, 2, n), 1, split(0, 0))
		expectMachine(t, repeat(2, 2, n), 0)
		expectMachine(t, concat(repeat(0, -1, n), b), 2, only('b', 0), split(2, 1))
		expectMachine(t, concat(repeat(0, 2, n), b), 3, only('b', 0), split(1, 1), split(2, 1))
	}
	// Said as often as can be, it makes nothing still.
	expectMachine(t, repeat(math.MaxInt, -1, none), 1, split(1, 0))
	expectMachine(t, repeat(math.MaxInt, -1, concat(none, repeat(0, 0, a))), 1, split(1, 0))
}

// P15.2: what a kind does not have counts for nothing.
func TestStrayParts(t *testing.T) {
	wrong := []Node{{Kind: 9}, repeat(0, 0)}
	full := Node{Not: true, Spans: spans('x', 'y'), Least: -5, Most: 99, Kids: wrong}
	with := func(n Node, change func(n *Node)) Node {
		change(&n)
		return n
	}
	expectMachine(t, full, 0)
	expectMachine(t, with(full, func(n *Node) { n.Kind = Rune }), 1, State{Kind: Take, Not: true, Spans: spans('x', 'y')})
	expectMachine(t, with(full, func(n *Node) { n.Kind, n.Kids = Concat, []Node{a, b} }), 2, only('b', 0), only('a', 1))
	expectMachine(t, with(full, func(n *Node) { n.Kind, n.Kids = Either, []Node{a, b} }), 3, only('b', 0), only('a', 0), split(2, 1))
	expectMachine(t, with(full, func(n *Node) { n.Kind, n.Least, n.Most, n.Kids = Repeat, 0, -1, []Node{a} }), 1, split(2, 0), only('a', 1))
	// So do kids where a kind has none, however deep they are.
	expectMachine(t, Node{Kind: Rune, Spans: spans('a', 'a'), Kids: []Node{around(a, 99)}}, 1, only('a', 0))
}

// P15.2: ErrArg of another kind, and of a Repeat that is not right, wherever
// it stands, and whatever else is wrong.
func TestCompileOfWrongNodes(t *testing.T) {
	wrong := []Node{
		{Kind: 5}, {Kind: -1}, {Kind: 99}, {Kind: math.MaxInt}, {Kind: math.MinInt}, {Kind: 5, Kids: []Node{a}},
		repeat(0, -1), repeat(1, 1), repeat(0, -1, a, b), repeat(1, 1, a, a), repeat(0, 0, none, none), repeat(0, 0, a, b, c),
		repeat(-1, -1, a), repeat(-1, 0, a), repeat(-1, 5, a), repeat(-2, -1, a), repeat(math.MinInt, -1, a), repeat(math.MinInt, math.MaxInt, a), repeat(-3, -3, none),
		repeat(1, 0, a), repeat(2, 1, a), repeat(16, 15, a), repeat(16, 0, a), repeat(0, -2, a), repeat(0, math.MinInt, a), repeat(math.MaxInt, math.MinInt, a), repeat(5, -2, a), repeat(1, 0, none),
		repeat(0, 17, a), repeat(17, 17, a), repeat(1, 100, none), repeat(0, math.MaxInt, a), repeat(17, 18, a), repeat(16, 17, none),
	}
	expectWrong(t, api.ErrArg, wrong...)
	long := repeat(16, 16, repeat(16, 16, repeat(16, 16, a)))
	for _, n := range wrong {
		for i, x := range []Node{concat(long, n), concat(n, long), either(around(a, 99), n), repeat(0, 0, n), around(n, 64), around(n, 65), around(n, 1000), repeat(16, 16, repeat(16, 16, repeat(16, 16, concat(a, n))))} {
			if l, at, e := Compile(x); l != nil || at != 0 || e != api.ErrArg {
				t.Errorf("%d: %+v: %+v, %d, %d, not ErrArg alone", i, n, l, at, e)
			}
		}
	}
	// At the bounds.
	for _, n := range []Node{repeat(0, 16, a), repeat(16, 16, a), repeat(16, -1, a), repeat(0, 0, a), repeat(0, -1, a)} {
		if _, _, e := Compile(n); e != api.OK {
			t.Errorf("%+v: %d", n, e)
		}
	}
	// MaxRepeat bounds Most alone.
	if l, at, e := Compile(repeat(17, -1, a)); len(l) != 19 || at != 18 || e != api.OK {
		t.Errorf("%d states, %d, %d", len(l), at, e)
	}
}

// P15.2: ErrLong of just one state more than MaxState.
func TestCompileAtMaxState(t *testing.T) {
	some := func(n int) []Node {
		l := make([]Node, n)
		for i := range l {
			l[i] = a
		}
		return l
	}
	for _, n := range []Node{concat(some(400)...), concat(either(some(200)...), a), concat(repeat(16, 16, concat(some(24)...)), repeat(0, 8, a)), repeat(399, -1, a), repeat(0, -1, concat(some(399)...)), repeat(0, 1, concat(some(399)...)), either(make([]Node, 401)...)} {
		if l, _, e := Compile(n); len(l) != api.MaxState+1 || e != api.OK || Size(n) != api.MaxState {
			t.Errorf("%d states, %d, of %d", len(l), e, Size(n))
		}
		expectWrong(t, api.ErrLong, concat(n, a), concat(a, n), either(n, none), concat(n, repeat(0, 1, none)), repeat(2, 2, n), either(a, n))
	}
	expectWrong(t, api.ErrLong, concat(some(401)...), repeat(400, -1, a), repeat(math.MaxInt, -1, a), repeat(16, 16, repeat(16, 16, repeat(2, 2, a))), either(make([]Node, 402)...))
}

// P15.2: ErrLong of nodes deeper than 64, even if they make no state.
func TestCompileOfDeepNodes(t *testing.T) {
	for _, deep := range []int{0, 1, 2, 63, 64} {
		expectMachine(t, around(a, deep), 1, only('a', 0))
		expectMachine(t, around(none, deep), 0)
		if deep > 0 {
			// One without kids counts as one that has some.
			expectMachine(t, around(concat(), deep-1), 0)
			expectMachine(t, concat(around(a, deep-1), none, around(b, deep-1)), 2, only('b', 0), only('a', 1))
		}
	}
	for _, deep := range []int{65, 66, 100, 1 << 16} {
		for _, n := range []Node{around(a, deep), around(none, deep), around(either(), deep-1), concat(none, around(none, deep-1)), concat(around(a, deep-1), b), repeat(0, 0, around(a, deep-1))} {
			if l, at, e := Compile(n); l != nil || at != 0 || e != api.ErrLong {
				t.Errorf("%d deep: %+v, %d, %d", deep, l, at, e)
			}
		}
		expectSize(t, around(a, deep), 1)
	}
	// What Parse answers is never so deep.
	n, e := Parse(strings.Repeat("(", api.MaxDepth) + "a|b" + strings.Repeat(")*c|d", api.MaxDepth))
	if l, _, eCompile := Compile(n); e != api.OK || eCompile != api.OK || len(l) != Size(n)+1 {
		t.Errorf("%d, %d, %d states", e, eCompile, len(l))
	}
}

// P15.2: how many states each kind makes.
func TestSize(t *testing.T) {
	for _, k := range []struct {
		n    Node
		want int
	}{
		{none, 0}, {a, 1}, {point, 1}, {of(), 1}, {concat(), 0}, {concat(a), 1}, {concat(a, b, none), 2},
		{either(), 0}, {either(none), 0}, {either(a), 1}, {either(a, b), 3}, {either(none, none), 1}, {either(a, b, c), 5},
		{repeat(0, -1, a), 2}, {repeat(1, -1, a), 2}, {repeat(2, -1, a), 3}, {repeat(16, -1, a), 17}, {repeat(0, -1, either(a, b)), 4}, {repeat(3, -1, either(a, b)), 10}, {repeat(0, -1, none), 1}, {repeat(5, -1, none), 1},
		{repeat(0, 0, a), 0}, {repeat(0, 1, a), 2}, {repeat(1, 1, a), 1}, {repeat(2, 5, a), 8}, {repeat(2, 5, either(a, b)), 18}, {repeat(0, 3, none), 3}, {repeat(3, 3, none), 0},
		{concat(a, repeat(0, -1, either(b, c)), repeat(2, 3, not('x', 'z'))), 1 + (3 + 1) + 2 + 2},
		// Made by hand: counted as the chapter tells, though there is no machine.
		{repeat(0, 17, a), 34}, {repeat(17, 17, a), 17}, {repeat(17, -1, a), 18}, {repeat(100, 1000, a), 1900},
		{repeat(1<<40, 1<<40+5, none), 5}, {repeat(1<<40, -1, none), 1}, {repeat(math.MaxInt, math.MaxInt, none), 0}, {repeat(math.MaxInt-3, math.MaxInt, none), 3},
		// What there is not makes nothing; nothing is made less often than never.
		{Node{Kind: 5}, 0}, {Node{Kind: -1, Kids: []Node{a}}, 0}, {concat(Node{Kind: 9}, a), 1}, {either(a, Node{Kind: 9}, b), 4}, {repeat(0, -1), 0}, {repeat(2, 2), 0}, {repeat(2, 2, a, b), 0}, {concat(repeat(0, -1, a, b), c), 1},
		{repeat(-1, -1, a), 1}, {repeat(-2, 3, a), 10}, {repeat(3, 1, a), 3}, {repeat(2, -2, a), 2}, {repeat(-5, -9, a), 0}, {repeat(math.MinInt, math.MinInt, a), 0}, {repeat(math.MaxInt, math.MinInt, none), 0},
	} {
		expectSize(t, k.n, k.want)
	}
}

// P15.2: numbers of states are cut off at 2^31 - 1.
func TestSizeIsCutOff(t *testing.T) {
	const most = 1<<31 - 1
	for _, k := range []struct {
		n    Node
		want int
	}{
		{repeat(most, most, a), most}, {repeat(most-1, most-1, a), most - 1}, {repeat(most+1, most+1, a), most}, {repeat(1<<32, 1<<32, a), most}, {repeat(1<<33+1, 1<<33+1, a), most}, {repeat(math.MaxInt, math.MaxInt, a), most},
		{repeat(most-1, -1, a), most}, {repeat(most-2, -1, a), most - 1}, {repeat(most, -1, a), most}, {repeat(math.MaxInt, -1, a), most}, {repeat(1<<32, -1, concat(a, b)), most},
		{repeat(0, 1<<30-1, a), most - 1}, {repeat(0, 1<<30, a), most}, {repeat(0, math.MaxInt, a), most}, {repeat(math.MinInt, math.MaxInt, none), most}, {repeat(-most, most, none), most}, {repeat(0, most, none), most}, {repeat(1, most, none), most - 1}, {repeat(math.MinInt, math.MinInt+7, none), 7},
		{repeat(math.MaxInt, math.MaxInt, repeat(math.MaxInt, math.MaxInt, a)), most}, {repeat(0, math.MaxInt, repeat(0, math.MaxInt, a)), most}, {repeat(1<<62, 1<<62+3, repeat(most, most, a)), most},
		{concat(repeat(most, most, a), a), most}, {concat(a, repeat(most-2, most-2, a)), most - 1}, {concat(repeat(1<<30, 1<<30, a), repeat(1<<30, 1<<30, a)), most}, {either(repeat(most-1, most-1, a), none), most}, {either(repeat(most, most, a), repeat(most, most, a), a), most},
		// Cut off or not, never is never.
		{repeat(0, 0, repeat(math.MaxInt, math.MaxInt, a)), 0}, {repeat(1, 1, repeat(most, most, a)), most},
	} {
		expectSize(t, k.n, k.want)
	}
	n := a
	for i := range 20 {
		want := most
		if i < 8 {
			want = 1 << (4 * i)
		}
		expectSize(t, n, want)
		n = repeat(16, 16, n)
	}
}

// P1: kids that stand in many nodes are not looked at again and again.
func TestKidsInManyNodes(t *testing.T) {
	many, nothing := a, none
	for i := range 60 {
		want := 1<<31 - 1
		if i < 31 {
			want = 1 << i
		}
		expectSize(t, many, want)
		expectSize(t, nothing, 0)
		many, nothing = concat(many, many), concat(nothing, nothing)
	}
	expectWrong(t, api.ErrLong, many)
	expectMachine(t, concat(nothing, a), 1, only('a', 0))
	expectMachine(t, repeat(0, -1, nothing), 1, split(1, 0))
	expectWrong(t, api.ErrArg, concat(many, nothing, Node{Kind: 9}), concat(many, repeat(1, 0, nothing)))
	for range 10 {
		nothing = concat(nothing, nothing)
	}
	if l, _, e := Compile(nothing); l != nil || e != api.ErrLong {
		t.Errorf("%+v, %d", l, e)
	}
}

// P1: nodes that hold themselves are too long, and that is found.
func TestNodesThatHoldThemselves(t *testing.T) {
	for _, kind := range []int{Concat, Either, Repeat} {
		for least := range 3 {
			kids := make([]Node, 3)
			n := Node{Kind: kind, Least: least, Most: 2, Kids: kids}
			if kind == Repeat {
				n.Kids = kids[:1]
			}
			kids[0], kids[1], kids[2] = n, n, n
			for _, x := range []Node{n, concat(a, n), repeat(0, 0, n)} {
				if l, at, e := Compile(x); l != nil || at != 0 || e != api.ErrLong {
					t.Errorf("kind %d: %+v, %d, %d", kind, l, at, e)
				}
			}
			if size := Size(n); size < 0 || size > 1<<31-1 {
				t.Errorf("kind %d: %d states", kind, size)
			}
			n.Kids = append(n.Kids[:0:0], n.Kids...)
			if kind != Repeat {
				n.Kids[1] = Node{Kind: 9}
				if l, _, e := Compile(n); l != nil || e != api.ErrArg {
					t.Errorf("kind %d: %+v, %d", kind, l, e)
				}
			}
		}
	}
}

// P1: the machine has memory of its own, and nothing that is handed in is
// changed.
func TestMachinesShareNothing(t *testing.T) {
	n := twin(concat(word, repeat(2, 3, either(word, not('a', 'c'))), repeat(1, -1, digit)))
	before := twin(n)
	first, at, e := Compile(n)
	if e != api.OK || !alike(n, before) {
		t.Fatalf("%d, %+v", e, n)
	}
	want := make([]State, len(first))
	for i, s := range first {
		want[i] = s
		want[i].Spans = slices.Clone(s.Spans)
	}
	for i, s := range first {
		_ = append(s.Spans, Span{1, 1})
		for j := range s.Spans {
			s.Spans[j] = Span{-7, -7}
		}
		for j := i + 1; j < len(first); j++ {
			if !sameState(first[j], want[j]) {
				t.Fatalf("state %d was changed by state %d", j, i)
			}
		}
	}
	if !alike(n, before) {
		t.Errorf("%+v is not %+v", n, before)
	}
	again, againAt, e := Compile(n)
	if !slices.EqualFunc(again, want, sameState) || againAt != at || e != api.OK {
		t.Errorf("%+v, %d, %d", again, againAt, e)
	}
	spoil(n)
	if !slices.EqualFunc(again, want, sameState) {
		t.Errorf("%+v was changed", again)
	}
}

// someByHand: a node, wrong or not, with what it may hold at the bounds.
func someByHand(r *rand.Rand, room int) Node {
	numbers := []int{-2, -1, 0, 0, 1, 1, 2, 3, 15, 16, 17, 1000, 1<<31 - 1, 1 << 31, math.MaxInt, math.MinInt}
	kinds := []int{Empty, Rune, Rune, Concat, Concat, Either, Either, Repeat, Repeat, Repeat, Repeat}
	n := Node{Kind: kinds[r.Intn(len(kinds))], Not: r.Intn(3) == 0, Least: numbers[r.Intn(len(numbers))], Most: numbers[r.Intn(len(numbers))]}
	if r.Intn(40) == 0 {
		n.Kind = r.Intn(9) - 2
	}
	for range r.Intn(3) {
		n.Spans = append(n.Spans, Span{rune(r.Intn(9)), rune(r.Intn(9))})
	}
	some := r.Intn(4)
	if n.Kind == Repeat && r.Intn(20) > 0 {
		some = 1
	}
	if n.Kind == Repeat && r.Intn(8) > 0 {
		n.Least = r.Intn(17)
		n.Most = []int{-1, n.Least, n.Least + 1, 16}[r.Intn(4)]
	}
	for i := 0; i < some && room > 0; i++ {
		n.Kids = append(n.Kids, someByHand(r, room-1))
	}
	return n
}

// isWrong: by the chapter's words.
func isWrong(n Node) bool {
	switch n.Kind {
	case Empty, Rune:
		return false
	case Repeat:
		if len(n.Kids) != 1 || n.Least < 0 || n.Most != -1 && n.Most < n.Least || n.Most > 16 {
			return true
		}
	case Concat, Either:
	default:
		return true
	}
	return slices.ContainsFunc(n.Kids, isWrong)
}

// states: how many a node that is not wrong makes, not cut off.
func states(n Node) *big.Int {
	sum := new(big.Int)
	for _, kid := range n.Kids {
		sum.Add(sum, states(kid))
	}
	least, one := big.NewInt(int64(n.Least)), big.NewInt(1)
	switch n.Kind {
	case Empty:
		return new(big.Int)
	case Rune:
		return one
	case Either:
		if len(n.Kids) > 0 {
			sum.Add(sum, big.NewInt(int64(len(n.Kids)-1)))
		}
	case Repeat:
		kid := new(big.Int).Set(sum)
		sum.Mul(sum, least)
		if n.Most != -1 {
			more := new(big.Int).Sub(big.NewInt(int64(n.Most)), least)
			return sum.Add(sum, more.Mul(more, kid.Add(kid, one)))
		}
		sum.Add(sum, one)
		if n.Least == 0 {
			sum.Add(sum, kid)
		}
	}
	return sum
}

// P15.2: at nodes by chance, Size against the count, Compile's errors, and how
// many states it makes.
func TestNodesByChance(t *testing.T) {
	r := rand.New(rand.NewSource(15))
	var seen [3]int
	for range 60000 {
		n := someByHand(r, 6)
		before := twin(n)
		l, at, e := Compile(n)
		size := Size(n)
		if !alike(n, before) {
			t.Fatalf("%+v was changed", before)
		}
		want := api.OK
		if isWrong(n) {
			want = api.ErrArg
			seen[1]++
		} else {
			count := states(n)
			if cut := big.NewInt(1<<31 - 1); count.Cmp(cut) > 0 {
				count = cut
			}
			if int64(size) != count.Int64() {
				t.Fatalf("Size(%+v) is %d, not %d", n, size, count)
			}
			if size > 400 {
				want = api.ErrLong
				seen[2]++
			}
		}
		if e != want || e != api.OK && (l != nil || at != 0) {
			t.Fatalf("Compile(%+v) is %+v, %d, %d, not %d", n, l, at, e, want)
		}
		if e == api.OK {
			seen[0]++
			expectLedStates(t, n, l, at, size)
		}
	}
	if seen[0] < 1000 || seen[1] < 1000 || seen[2] < 1000 {
		t.Errorf("the nodes are %v", seen)
	}
}

// expectLedStates: there are so many states, one Halt, at 0, and all lead to
// others; each is led to, if it does not begin.
func expectLedStates(t *testing.T, n Node, l []State, at, size int) {
	t.Helper()
	if len(l) != size+1 || at < 0 || at > size || !sameState(l[0], halt) {
		t.Fatalf("Compile(%+v) is %+v, %d", n, l, at)
	}
	led := make([]bool, len(l))
	led[at] = true
	for i, s := range l[1:] {
		if s.Kind != Take && s.Kind != Split || s.One < 0 || s.One > size || s.Two < 0 || s.Two > size {
			t.Fatalf("Compile(%+v): state %d is %+v", n, i+1, s)
		}
		if s.Kind == Take && s.Two != 0 || s.Kind == Split && (s.Not || s.Spans != nil) {
			t.Fatalf("Compile(%+v): state %d is %+v", n, i+1, s)
		}
		led[s.One] = true
		if s.Kind == Split {
			led[s.Two] = true
		}
	}
	if i := slices.Index(led[1:], false); i >= 0 {
		t.Fatalf("Compile(%+v): nothing leads to state %d of %+v", n, i+1, l)
	}
}
