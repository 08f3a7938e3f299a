package pin

import (
	"math"
	"math/rand"
	"testing"

	"larum/api"
)

// revs are revisions by ids.
type revs map[int64]int64

// some is pins of which three are held, and room for two more.
func some(t *testing.T) *Pins {
	t.Helper()
	p := New(5)
	expectAdd(t, p, 7, 10, 1)
	expectAdd(t, p, 3, 20, 2)
	expectAdd(t, p, 0, 15, 3)
	return p
}

func expectAdd(t *testing.T, p *Pins, rev, until, want int64) {
	t.Helper()
	if id, e := p.Add(rev, until); id != want || e != api.OK {
		t.Errorf("Add(%d, %d) is %d, %d, not %d", rev, until, id, e, want)
	}
}

func expectRefused(t *testing.T, p *Pins, rev, until int64, want api.Errno) {
	t.Helper()
	if id, e := p.Add(rev, until); id != 0 || e != want {
		t.Errorf("Add(%d, %d) is %d, %d, not %d alone", rev, until, id, e, want)
	}
}

// expectHeld: just these are held, and no others of the ids near to theirs.
func expectHeld(t *testing.T, p *Pins, want revs) {
	t.Helper()
	if n := p.Len(); n != len(want) {
		t.Errorf("%d are held, not %d", n, len(want))
	}
	least := int64(math.MaxInt64)
	for id := int64(-2); id < 30; id++ {
		rev, ok := want[id]
		if got, is := p.Rev(id); got != rev || is != ok {
			t.Errorf("Rev(%d) is %d, %v, not %d, %v", id, got, is, rev, ok)
		}
		if ok {
			least = min(least, rev)
		}
	}
	for _, id := range []int64{math.MinInt64, math.MaxInt64} {
		if got, is := p.Rev(id); got != 0 || is {
			t.Errorf("Rev(%d) is %d, %v", id, got, is)
		}
	}
	if len(want) == 0 {
		least = 0
	}
	if got, ok := p.Least(); got != least || ok != (len(want) > 0) {
		t.Errorf("Least is %d, %v, not %d, %v", got, ok, least, len(want) > 0)
	}
}

func expectKeep(t *testing.T, p *Pins, id, until int64, want bool) {
	t.Helper()
	if ok := p.Keep(id, until); ok != want {
		t.Errorf("Keep(%d, %d) is %v", id, until, ok)
	}
}

func expectDrop(t *testing.T, p *Pins, id int64, want bool) {
	t.Helper()
	if ok := p.Drop(id); ok != want {
		t.Errorf("Drop(%d) is %v", id, ok)
	}
}

func expectExpire(t *testing.T, p *Pins, now int64, want int) {
	t.Helper()
	if n := p.Expire(now); n != want {
		t.Errorf("Expire(%d) is %d, not %d", now, n, want)
	}
}

// P21.1: none is held at first, and at most as many as may be; 1, if that is
// below 1.
func TestNew(t *testing.T) {
	for most, room := range map[int]int64{math.MinInt: 1, -1: 1, 0: 1, 1: 1, 2: 2, 5: 5, 20: 20} {
		p := New(most)
		expectHeld(t, p, nil)
		want := revs{}
		for id := int64(1); id <= room; id++ {
			expectAdd(t, p, 9-id%3, 10, id)
			want[id] = 9 - id%3
			expectHeld(t, p, want)
		}
		for range 3 {
			expectRefused(t, p, 4, 10, api.ErrFull)
		}
		expectHeld(t, p, want)
	}
	expectAdd(t, New(math.MaxInt), 1, 1, 1)
}

// P21.1, P1: pins made by hand are as of at most 0.
func TestByHand(t *testing.T) {
	p := &Pins{}
	expectHeld(t, p, nil)
	expectKeep(t, p, 1, 2, false)
	expectDrop(t, p, 1, false)
	expectExpire(t, p, math.MaxInt64, 0)
	expectAdd(t, p, 1, 1, 1)
	expectRefused(t, p, 1, 1, api.ErrFull)
	expectHeld(t, p, revs{1: 1})
}

// P21.1: a revision below 0 is refused, be there room or not; 0 and all above
// are held.
func TestAddOfRevisions(t *testing.T) {
	p := New(4)
	want := revs{}
	for i, rev := range []int64{0, 1, api.MaxRev, math.MaxInt64} {
		for _, below := range []int64{-1, -2, -api.MaxRev, math.MinInt64} {
			expectRefused(t, p, below, 10, api.ErrArg)
		}
		expectHeld(t, p, want)
		id := int64(i + 1)
		expectAdd(t, p, rev, 10, id)
		want[id] = rev
		expectHeld(t, p, want)
	}
	expectRefused(t, p, 0, 10, api.ErrFull)
	for _, below := range []int64{-1, -2, -api.MaxRev, math.MinInt64} {
		expectRefused(t, p, below, 10, api.ErrArg)
	}
	expectHeld(t, p, want)
}

// P21.1: one revision may be held several times, whatever the times are.
func TestAddOfTimes(t *testing.T) {
	p := New(10)
	want := revs{}
	for i, until := range []int64{math.MinInt64, -1, 0, 5, 5, api.MaxTime, math.MaxInt64} {
		id := int64(i + 1)
		expectAdd(t, p, 8, until, id)
		want[id] = 8
		expectHeld(t, p, want)
	}
}

// P21.1: where one went there is room again; ids go on, none is given twice,
// and a refused Add uses none.
func TestRoomAgain(t *testing.T) {
	p := New(2)
	expectAdd(t, p, 5, 10, 1)
	expectAdd(t, p, 6, 20, 2)
	expectRefused(t, p, 7, 30, api.ErrFull)
	expectDrop(t, p, 2, true)
	expectRefused(t, p, -1, 30, api.ErrArg)
	expectAdd(t, p, 8, 30, 3)
	expectHeld(t, p, revs{1: 5, 3: 8})
	expectRefused(t, p, 9, 30, api.ErrFull)
	expectExpire(t, p, 10, 1)
	expectAdd(t, p, 9, 30, 4)
	expectHeld(t, p, revs{3: 8, 4: 9})
	expectExpire(t, p, 30, 2)
	expectHeld(t, p, nil)
	expectAdd(t, p, 1, 1, 5)
	expectDrop(t, p, 5, true)
	expectHeld(t, p, nil)
	expectAdd(t, p, 1, 1, 6)
	expectAdd(t, p, 2, 1, 7)
	expectHeld(t, p, revs{6: 1, 7: 2})
	expectRefused(t, p, 1, 1, api.ErrFull)
}

// P21.1: of one that is held, that was, and that never was.
func TestDrop(t *testing.T) {
	p := some(t)
	for _, id := range []int64{0, -1, 4, 5, math.MinInt64, math.MaxInt64} {
		expectDrop(t, p, id, false)
		expectKeep(t, p, id, 99, false)
		expectHeld(t, p, revs{1: 7, 2: 3, 3: 0})
	}
	expectDrop(t, p, 3, true)
	expectHeld(t, p, revs{1: 7, 2: 3})
	expectDrop(t, p, 3, false)
	expectKeep(t, p, 3, 99, false)
	expectHeld(t, p, revs{1: 7, 2: 3})
	expectDrop(t, p, 1, true)
	expectHeld(t, p, revs{2: 3})
	expectDrop(t, p, 2, true)
	for id := range int64(5) {
		expectDrop(t, p, id, false)
	}
	expectHeld(t, p, nil)
	expectExpire(t, p, math.MaxInt64, 0)
}

// P21.1: a later time counts; the same one and an earlier one change nothing.
func TestKeep(t *testing.T) {
	for until, ends := range map[int64]int64{10: 10, 9: 10, 0: 10, -1: 10, math.MinInt64: 10, 11: 11, 19: 19, 30: 30, math.MaxInt64: math.MaxInt64} {
		p := some(t)
		expectDrop(t, p, 2, true)
		expectDrop(t, p, 3, true)
		expectKeep(t, p, 1, until, true)
		expectHeld(t, p, revs{1: 7})
		expectExpire(t, p, ends-1, 0)
		expectHeld(t, p, revs{1: 7})
		expectExpire(t, p, ends, 1)
		expectHeld(t, p, nil)
		expectKeep(t, p, 1, math.MaxInt64, false)
		expectHeld(t, p, nil)
	}
	p := some(t)
	expectKeep(t, p, 1, 30, true)
	expectKeep(t, p, 1, 12, true)
	expectExpire(t, p, 20, 2)
	expectHeld(t, p, revs{1: 7})
}

// P21.2: those whose time is now or ahead of now go, at whatever time.
func TestExpire(t *testing.T) {
	all := revs{1: 7, 2: 3, 3: 0}
	for now, want := range map[int64]revs{
		math.MinInt64: all, -1: all, 0: all, 9: all,
		10: {2: 3, 3: 0}, 11: {2: 3, 3: 0}, 14: {2: 3, 3: 0},
		15: {2: 3}, 16: {2: 3}, 19: {2: 3},
		20: {}, 21: {}, math.MaxInt64: {},
	} {
		p := some(t)
		expectExpire(t, p, now, 3-len(want))
		expectHeld(t, p, want)
		expectExpire(t, p, now, 0)
		expectHeld(t, p, want)
		expectExpire(t, p, 9, 0)
		expectHeld(t, p, want)
		expectExpire(t, p, 20, len(want))
	}
	p := New(3)
	expectExpire(t, p, math.MaxInt64, 0)
	expectAdd(t, p, 1, math.MinInt64, 1)
	expectAdd(t, p, 1, math.MaxInt64, 2)
	expectExpire(t, p, math.MinInt64, 1)
	expectExpire(t, p, math.MaxInt64-1, 0)
	expectExpire(t, p, math.MaxInt64, 1)
	expectHeld(t, p, nil)
}

// P21.2: time does not go on by itself: what is over is held till Expire.
func TestOverButHeld(t *testing.T) {
	p := New(1)
	expectAdd(t, p, 4, -5, 1)
	expectRefused(t, p, 4, 9, api.ErrFull)
	expectHeld(t, p, revs{1: 4})
	expectKeep(t, p, 1, 3, true)
	expectExpire(t, p, 2, 0)
	expectHeld(t, p, revs{1: 4})
}

// P21.2: the lowest revision that is held.
func TestLeast(t *testing.T) {
	// The chapter's example.
	p := New(2)
	expectAdd(t, p, 5, 1, 1)
	expectAdd(t, p, 3, 1, 2)
	if rev, ok := p.Least(); rev != 3 || !ok {
		t.Errorf("Least is %d, %v", rev, ok)
	}

	p = New(5)
	expectAdd(t, p, math.MaxInt64, 50, 1)
	expectHeld(t, p, revs{1: math.MaxInt64})
	expectAdd(t, p, 2, 20, 2)
	expectAdd(t, p, 2, 30, 3)
	expectAdd(t, p, 0, 40, 4)
	expectAdd(t, p, 6, 10, 5)
	expectHeld(t, p, revs{1: math.MaxInt64, 2: 2, 3: 2, 4: 0, 5: 6})
	expectDrop(t, p, 4, true)
	expectHeld(t, p, revs{1: math.MaxInt64, 2: 2, 3: 2, 5: 6})
	expectDrop(t, p, 2, true)
	expectHeld(t, p, revs{1: math.MaxInt64, 3: 2, 5: 6})
	expectExpire(t, p, 30, 2)
	expectHeld(t, p, revs{1: math.MaxInt64})
	expectDrop(t, p, 1, true)
	expectHeld(t, p, nil)
}

// P21.1, P21.2: of nil pins.
func TestNil(t *testing.T) {
	var p *Pins
	for _, n := range []int64{math.MinInt64, -1, 0, 1, math.MaxInt64} {
		expectRefused(t, p, n, 1, api.ErrNil)
		expectRefused(t, p, 1, n, api.ErrNil)
		expectKeep(t, p, n, 1, false)
		expectDrop(t, p, n, false)
		expectExpire(t, p, n, 0)
	}
	expectHeld(t, p, nil)
}

// Pins do not see one another.
func TestApart(t *testing.T) {
	a, b := some(t), some(t)
	expectDrop(t, a, 1, true)
	expectHeld(t, a, revs{2: 3, 3: 0})
	expectHeld(t, b, revs{1: 7, 2: 3, 3: 0})
	expectAdd(t, b, 1, 1, 4)
	expectAdd(t, a, 2, 1, 4)
	expectHeld(t, a, revs{2: 3, 3: 0, 4: 2})
	expectHeld(t, b, revs{1: 7, 2: 3, 3: 0, 4: 1})
}

// one is a pin of the model.
type one struct{ id, rev, until int64 }

// model is pins by the chapter's words, in a list.
type model struct {
	most int
	last int64
	held []one
}

func (m *model) add(rev, until int64) (int64, api.Errno) {
	if rev < 0 {
		return 0, api.ErrArg
	}
	if len(m.held) == max(m.most, 1) {
		return 0, api.ErrFull
	}
	m.last++
	m.held = append(m.held, one{m.last, rev, until})
	return m.last, api.OK
}

func (m *model) keep(id, until int64) bool {
	for i, x := range m.held {
		if x.id == id {
			if until > x.until {
				m.held[i].until = until
			}
			return true
		}
	}
	return false
}

// leave: those alone stay that should; how many went.
func (m *model) leave(stays func(x one) bool) int {
	var l []one
	for _, x := range m.held {
		if stays(x) {
			l = append(l, x)
		}
	}
	n := len(m.held) - len(l)
	m.held = l
	return n
}

// P21.1, P21.2: pins by chance, step by step, against the chapter's words.
func TestPinsByChance(t *testing.T) {
	r := rand.New(rand.NewSource(21))
	seen := map[api.Errno]int{}
	for range 500 {
		m := &model{most: r.Intn(7) - 1}
		p := New(m.most)
		for m.last < 25 {
			id, n := r.Int63n(m.last+3)-1, r.Int63n(20)-2
			switch r.Intn(6) {
			case 0:
				expectKeep(t, p, id, n, m.keep(id, n))
			case 1:
				expectDrop(t, p, id, m.leave(func(x one) bool { return x.id != id }) == 1)
			case 2:
				expectExpire(t, p, n, m.leave(func(x one) bool { return x.until > n }))
			default:
				rev := r.Int63n(12) - 2
				want, e := m.add(rev, n)
				seen[e]++
				if id, got := p.Add(rev, n); id != want || got != e {
					t.Errorf("Add(%d, %d) is %d, %d, not %d, %d", rev, n, id, got, want, e)
				}
			}
			held := revs{}
			for _, x := range m.held {
				held[x.id] = x.rev
			}
			expectHeld(t, p, held)
			if t.Failed() {
				t.Fatalf("of %+v", m)
			}
		}
	}
	if seen[api.OK] < 1000 || seen[api.ErrArg] < 1000 || seen[api.ErrFull] < 1000 {
		t.Errorf("too few of one kind: %v", seen)
	}
}

// P1: many are held, and go, soon.
func TestMany(t *testing.T) {
	const many = 300000
	p := New(many)
	for i := range int64(many) {
		if id, e := p.Add(i, i); id != i+1 || e != api.OK {
			t.Fatal(i, id, e)
		}
	}
	expectRefused(t, p, 1, 1, api.ErrFull)
	for id := int64(1); id <= many/3; id++ {
		if rev, ok := p.Rev(id); rev != id-1 || !ok || !p.Keep(id, many) || !p.Drop(id) {
			t.Fatal(id, rev, ok)
		}
	}
	if rev, ok := p.Least(); rev != many/3 || !ok {
		t.Errorf("Least is %d, %v", rev, ok)
	}
	expectExpire(t, p, many-1, many-many/3)
	if p.Len() != 0 {
		t.Errorf("%d are held", p.Len())
	}
}

// P1: no call panics, whatever it is given.
func FuzzPins(f *testing.F) {
	f.Add(1, int64(1), int64(2), int64(1), int64(3))
	f.Add(math.MinInt, int64(math.MinInt64), int64(math.MaxInt64), int64(-1), int64(0))
	f.Add(math.MaxInt, int64(math.MaxInt64), int64(math.MinInt64), int64(math.MaxInt64), int64(math.MaxInt64))
	f.Fuzz(func(t *testing.T, most int, rev, until, id, now int64) {
		p := New(most)
		m := &model{most: most}
		for range 3 {
			want, e := m.add(rev, until)
			if got, x := p.Add(rev, until); got != want || x != e {
				t.Errorf("Add is %d, %d, not %d, %d", got, x, want, e)
			}
		}
		expectKeep(t, p, id, now, m.keep(id, now))
		expectDrop(t, p, id-1, m.leave(func(x one) bool { return x.id != id-1 }) == 1)
		expectExpire(t, p, now, m.leave(func(x one) bool { return x.until > now }))
		if p.Len() != len(m.held) {
			t.Errorf("%d are held, not %d", p.Len(), len(m.held))
		}
	})
}
