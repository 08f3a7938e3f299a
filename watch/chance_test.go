package watch

import (
	"math/rand"
	"slices"
	"testing"

	"larum/api"
	"larum/core"
)

// one is who waits, by the chapter's words.
type one struct {
	conn  int
	op    core.Op
	until int64
}

// model is a table by the chapter's words: a list, in order.
type model struct {
	most int
	l    []one
}

func (m *model) at(conn int) int {
	return slices.IndexFunc(m.l, func(x one) bool { return x.conn == conn })
}

func (m *model) park(conn int, o core.Op, until int64) api.Errno {
	if m.at(conn) >= 0 {
		return api.ErrState
	}
	if len(m.l) >= max(m.most, 1) {
		return api.ErrFull
	}
	m.l = append(m.l, one{conn, o, until})
	return api.OK
}

func (m *model) drop(conn int) bool {
	i := m.at(conn)
	if i >= 0 {
		m.l = slices.Delete(m.l, i, i+1)
	}
	return i >= 0
}

func (m *model) sweep(now, rev int64, try func(core.Op) core.Reply) []Done {
	var done []Done
	var left []one
	for _, x := range m.l {
		if r := try(x.op); r.Code != api.ErrMore {
			done = append(done, Done{x.conn, x.op, r})
		} else if x.until <= now {
			done = append(done, Done{x.conn, x.op, core.Reply{Rev: rev}})
		} else {
			left = append(left, x)
		}
	}
	m.l = left
	return done
}

// conns: who waits.
func (m *model) conns() []int {
	var l []int
	for _, x := range m.l {
		l = append(l, x.conn)
	}
	return l
}

// P30.1, P30.2: tables by chance, step by step, against the chapter's words.
func TestTablesByChance(t *testing.T) {
	r := rand.New(rand.NewSource(30))
	parked, dropped, some := map[api.Errno]int{}, map[bool]int{}, 0
	for range 1000 {
		m := &model{most: r.Intn(12) - 1}
		w := New(m.most)
		now := int64(0)
		for rev := range int64(60) {
			conn := r.Intn(10)
			switch r.Intn(5) {
			case 0, 1, 2:
				o, until := op(r.Int63n(20)), now+r.Int63n(12)-1
				e := m.park(conn, o, until)
				expectPark(t, w, conn, o, until, e)
				parked[e]++
			case 3:
				ok := m.drop(conn)
				expectDrop(t, w, conn, ok)
				dropped[ok]++
			case 4:
				now += r.Int63n(5)
				try := only(r.Int63n(20), r.Int63n(20), r.Int63n(20))
				want := m.sweep(now, rev, try)
				expectSwept(t, w, now, rev, try, want...)
				if len(want) > 1 && len(m.l) > 1 {
					some++
				}
			}
			expectWaiting(t, w, m.conns()...)
		}
		if t.Failed() {
			t.Fatalf("of %+v", m)
		}
	}
	if parked[api.OK] < 1000 || parked[api.ErrState] < 1000 || parked[api.ErrFull] < 1000 || dropped[true] < 1000 || dropped[false] < 1000 || some < 300 {
		t.Errorf("too few of one kind: %v, %v, %d", parked, dropped, some)
	}
}

// P0.3, P30.2: who watches a machine from a revision on is told the changes in
// order, none twice, none left out.
func TestWatchOfMachine(t *testing.T) {
	r := rand.New(rand.NewSource(303))
	m := core.New(core.Config{Keys: 100, Log: 1000, Stay: 50}, 0)
	w := New(5)
	from := map[int]int64{}
	heard := map[int][]int64{}
	for range 2000 {
		switch conn := r.Intn(5); r.Intn(3) {
		case 0:
			w.Park(conn, op(from[conn]), m.Now()+r.Int63n(5))
		case 1:
			m.Do(core.Op{Kind: core.Tick, T: 1})
		case 2:
			m.Do(core.Op{Kind: core.Create, Silence: silenceUntil(m.Now() + r.Int63n(9))})
		}
		for _, d := range w.Sweep(m.Now(), m.Rev(), m.Do) {
			if d.Reply.Code != api.OK || d.Reply.Rev != m.Rev() {
				t.Fatalf("%d is told %+v at %d", d.Conn, d.Reply, m.Rev())
			}
			for _, x := range d.Reply.Entries {
				heard[d.Conn] = append(heard[d.Conn], x.Rev)
			}
			from[d.Conn] = d.Reply.Rev
		}
	}
	whole := m.Do(core.Op{Kind: core.Watch})
	for conn, l := range heard {
		var want []int64
		for _, x := range whole.Entries {
			if x.Rev <= from[conn] {
				want = append(want, x.Rev)
			}
		}
		if len(l) < 100 || !slices.Equal(l, want) {
			t.Errorf("%d was told of %v, not of %v", conn, l, want)
		}
	}
	if len(heard) != 5 {
		t.Errorf("%d were told something", len(heard))
	}
}

// P1: no call panics, whatever it is given.
func FuzzTable(f *testing.F) {
	f.Add(2, []byte{0, 1, 2, 3, 200, 100, 7}, int64(5), int64(9))
	f.Add(-1, []byte("park, drop, sweep"), int64(-1), int64(-1))
	f.Add(1<<62, []byte{}, int64(1<<62), int64(-1<<62))
	f.Fuzz(func(t *testing.T, most int, steps []byte, now, until int64) {
		m := &model{most: most}
		w := New(most)
		for i, b := range steps {
			conn := int(b>>2) % 8
			switch b % 4 {
			case 0, 1:
				at := until - int64(b)
				expectPark(t, w, conn, op(int64(conn)), at, m.park(conn, op(int64(conn)), at))
			case 2:
				expectDrop(t, w, conn, m.drop(conn))
			case 3:
				try := only(int64(conn))
				expectSwept(t, w, now+int64(i), until, try, m.sweep(now+int64(i), until, try)...)
			}
			expectWaiting(t, w, m.conns()...)
		}
	})
}
