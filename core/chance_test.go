package core

import (
	"fmt"
	"maps"
	"math/rand"
	"slices"
	"testing"

	"larum/alert"
	"larum/api"
	"larum/clog"
	"larum/etag"
	"larum/group"
	"larum/match"
	"larum/mv"
	"larum/note"
	"larum/silence"
)

// thing is an alert or a silence that stands by a key, since a revision.
type thing struct {
	rev     int64
	alert   alert.Alert
	silence silence.Silence
}

// change is of a key; to nothing, if it is gone.
type change struct {
	key string
	to  *thing
}

// pinned is a revision that is held until a time.
type pinned struct{ rev, until int64 }

// model is a machine by the chapter's words: all that ever stood there.
type model struct {
	c        Config
	now      int64
	at       []map[string]thing        // at each revision
	versions map[string]map[int64]bool // by their revisions: are they values?
	floor    int64
	changes  []clog.Entry
	pins     map[int64]pinned
	given    int64 // pins so far
	notes    []note.Entry
	firing   []string
	next     int64
}

func newModel(c Config, now int64) *model {
	return &model{c: c, now: now, at: []map[string]thing{{}}, versions: map[string]map[int64]bool{}, pins: map[int64]pinned{}, next: 1}
}

func (m *model) rev() int64 { return int64(len(m.at) - 1) }

// stand: what stands there at a revision, by their keys.
func (m *model) stand(rev int64) ([]alert.Alert, []silence.Silence) {
	var a []alert.Alert
	var s []silence.Silence
	for _, key := range slices.Sorted(maps.Keys(m.at[rev])) {
		if x := m.at[rev][key]; key[0] == 'a' {
			a = append(a, x.alert)
		} else {
			s = append(s, x.silence)
		}
	}
	return a, s
}

// room: is there room for changes?
func (m *model) room(l []change) bool {
	keys, versions := len(m.at[m.rev()]), len(l)
	for _, of := range m.versions {
		versions += len(of)
	}
	for _, c := range l {
		_, is := m.at[m.rev()][c.key]
		if c.to == nil {
			keys--
		} else if !is {
			keys++
		}
	}
	return keys <= m.c.Keys && versions <= m.c.Versions
}

// compact: versions that are spare go.
func (m *model) compact(rev int64) {
	m.floor = rev
	for _, of := range m.versions {
		all := slices.Sorted(maps.Keys(of))
		for i, at := range all {
			last := i+1 == len(all) || all[i+1] > rev
			if at <= rev && (!last || !of[at]) {
				delete(of, at)
			}
		}
	}
}

// commit: is it done?
func (m *model) commit(l []change) bool {
	if !m.room(l) {
		least := m.rev()
		for _, p := range m.pins {
			least = min(least, p.rev)
		}
		if least > m.floor {
			m.compact(least)
		}
		if !m.room(l) {
			return false
		}
	}
	slices.SortFunc(l, func(a, b change) int {
		if a.key < b.key {
			return -1
		}
		return 1
	})
	now := maps.Clone(m.at[m.rev()])
	rev := m.rev() + 1
	for _, c := range l {
		if m.versions[c.key] == nil {
			m.versions[c.key] = map[int64]bool{}
		}
		m.versions[c.key][rev] = c.to != nil
		e := clog.Entry{Rev: rev, Change: mv.Change{Key: c.key, Gone: c.to == nil}}
		delete(now, c.key)
		if c.to != nil {
			c.to.rev = rev
			now[c.key] = *c.to
			if e.Change.Val = alert.Encode(c.to.alert); c.key[0] == 's' {
				e.Change.Val = silence.Encode(c.to.silence)
			}
		}
		m.changes = append(m.changes, e)
	}
	m.at = append(m.at, now)
	m.tell()
	return true
}

// tell: the outbox, of each group that fires now or did.
func (m *model) tell() {
	var fire []string
	for _, g := range m.groups(m.rev(), m.c.By, nil) {
		if slices.ContainsFunc(g.Members, func(x group.Member) bool { return len(x.By) == 0 }) {
			fire = append(fire, g.Key.String())
		}
	}
	all := slices.Concat(m.firing, fire)
	slices.Sort(all)
	for _, g := range slices.Compact(all) {
		if is := slices.Contains(fire, g); is != slices.Contains(m.firing, g) {
			m.notes = append(m.notes, note.Entry{Seq: int64(len(m.notes) + 1), Rev: m.rev(), Group: g, Firing: is})
		}
	}
	m.firing = fire
}

// groups: those of a revision, by labels, of alerts that fit.
func (m *model) groups(rev int64, by []string, fits *match.List) []group.Group {
	alerts, silences := m.stand(rev)
	found := map[string][]group.Member{}
	for _, a := range alerts {
		if fits != nil && !fits.Has(a.Labels) {
			continue
		}
		x := group.Member{Alert: a}
		for _, s := range silences {
			if silence.Mutes(s, a.Labels) {
				x.By = append(x.By, s.ID)
			}
		}
		key := a.Labels.Pick(by...).String()
		found[key] = append(found[key], x)
	}
	var l []group.Group
	for _, key := range slices.Sorted(maps.Keys(found)) {
		l = append(l, group.Group{Key: found[key][0].Alert.Labels.Pick(by...), Members: found[key]})
	}
	return l
}

// do: what is told, and how the model stands then.
func (m *model) do(o Op) Reply {
	switch o.Kind {
	case Post:
		return m.post(o.Alerts)
	case Create:
		return m.create(o.Silence)
	case Read, Update, Expire:
		return m.change(o)
	case Groups:
		return m.page(o)
	case Watch:
		return m.watch(o)
	case Out:
		floor := int64(max(len(m.notes)-m.c.Out, 0))
		if o.Rev < floor {
			return Reply{Code: api.ErrGone}
		}
		if o.Rev > int64(len(m.notes)) {
			return Reply{Code: api.ErrArg}
		}
		return Reply{Rev: m.rev(), Notes: m.notes[o.Rev:]}
	case Tick:
		return m.tick(o.T)
	}
	return Reply{Code: api.ErrArg}
}

func (m *model) post(l []alert.Alert) Reply {
	for _, a := range l {
		if alert.Right(a) != api.OK {
			return Reply{Code: api.ErrArg}
		}
	}
	if len(l) == 0 {
		return Reply{Code: api.ErrArg}
	}
	of := map[string]thing{}
	for _, a := range l {
		key := alert.Key(a)
		old, is := of[key]
		if !is {
			old, is = m.at[m.rev()][key]
		}
		if is {
			a = alert.Merge(old.alert, a)
		}
		of[key] = thing{alert: a}
	}
	var changes []change
	for key, x := range of {
		_, stands := m.at[m.rev()][key]
		if x.alert.Ends > m.now {
			changes = append(changes, change{key, &x})
		} else if stands {
			changes = append(changes, change{key, nil})
		}
	}
	if len(changes) > 0 && !m.commit(changes) {
		return Reply{Code: api.ErrFull}
	}
	return Reply{Rev: m.rev()}
}

func (m *model) put(s silence.Silence) Reply {
	if !m.commit([]change{{silence.Key(s.ID), &thing{silence: s}}}) {
		return Reply{Code: api.ErrFull}
	}
	return Reply{Rev: m.rev(), Silence: s, Tag: etag.Of(m.rev())}
}

func (m *model) create(s silence.Silence) Reply {
	if silence.Right(s) != api.OK {
		return Reply{Code: api.ErrArg}
	}
	s.ID = m.next
	r := m.put(silence.At(s, m.now))
	if r.Code == api.OK {
		m.next++
	}
	return r
}

func (m *model) change(o Op) Reply {
	x, is := m.at[m.rev()][silence.Key(o.ID)]
	if !is {
		return Reply{Code: api.ErrNone}
	}
	if o.Kind == Read {
		return Reply{Rev: m.rev(), Silence: x.silence, Tag: etag.Of(x.rev)}
	}
	if !o.Have.Has(etag.Of(x.rev)) {
		return Reply{Code: api.ErrStale}
	}
	s, e := silence.Update(x.silence, o.Silence, m.now)
	if o.Kind == Expire {
		s, e = silence.Expire(x.silence, m.now)
	}
	if e != api.OK {
		return Reply{Code: e}
	}
	return m.put(s)
}

func (m *model) page(o Op) Reply {
	id := o.Cursor.Pin
	p, is := m.pins[id]
	if id == 0 {
		if len(m.pins) >= m.c.Pins {
			return Reply{Code: api.ErrFull}
		}
		m.given++
		id, p = m.given, pinned{m.rev(), 0}
	} else if !is || p.rev < m.floor {
		return Reply{Code: api.ErrGone}
	}
	p.until = m.now + m.c.Hold
	m.pins[id] = p
	l := m.groups(p.rev, o.By, o.Filter)
	at := max(o.Cursor.At, 0)
	r := Reply{Rev: p.rev}
	for i := range min(max(o.N, 1), 1000) {
		if at+i < len(l) {
			r.Groups = append(r.Groups, l[at+i])
		}
	}
	if at+len(r.Groups) < len(l) {
		r.Next = Cursor{id, at + len(r.Groups)}
	} else {
		delete(m.pins, id)
	}
	return r
}

func (m *model) watch(o Op) Reply {
	// How many are kept: all of the lowest revisions go.
	var floor int64
	kept := m.changes
	for len(kept) > m.c.Log {
		floor = kept[0].Rev
		kept = slices.DeleteFunc(slices.Clone(kept), func(e clog.Entry) bool { return e.Rev == floor })
	}
	if o.Rev < floor {
		return Reply{Code: api.ErrGone}
	}
	if o.Rev > m.rev() {
		return Reply{Code: api.ErrArg}
	}
	r := Reply{Rev: m.rev()}
	for _, e := range kept {
		fits := e.Change.Key[0] == 's' || o.Filter == nil
		for rev := range m.at {
			if x, is := m.at[rev][e.Change.Key]; is && !fits {
				fits = o.Filter.Has(x.alert.Labels)
			}
		}
		if e.Rev > o.Rev && fits {
			r.Entries = append(r.Entries, e)
		}
	}
	if len(r.Entries) == 0 {
		return Reply{Code: api.ErrMore}
	}
	return r
}

func (m *model) tick(n int64) Reply {
	if n < 1 {
		return Reply{Code: api.ErrArg}
	}
	if m.now += n; m.now > api.MaxTime || m.now < 0 {
		m.now = api.MaxTime
	}
	maps.DeleteFunc(m.pins, func(_ int64, p pinned) bool { return p.until <= m.now })
	var l []change
	for key, x := range m.at[m.rev()] {
		if key[0] == 'a' {
			if x.alert.Ends <= m.now {
				l = append(l, change{key, nil})
			}
			continue
		}
		ahead := x.silence.State
		if x.silence = silence.At(x.silence, m.now); x.silence.State != ahead {
			l = append(l, change{key, &x})
		}
	}
	if len(l) > 0 && !m.commit(l) {
		m.pins = map[int64]pinned{}
		m.compact(m.rev())
		if !m.commit(l) {
			panic("no room for a tick")
		}
	}
	return Reply{Rev: m.rev()}
}

// chance makes what is asked.
type chance struct {
	*rand.Rand
	m       *model
	cursors []Cursor
}

// near: a time near to the model's.
func (r *chance) near() int64 { return r.m.now + int64(r.Intn(25)) - 8 }

func (r *chance) alert() alert.Alert {
	a := one("a"+string("123"[r.Intn(3)])+"b"+string("12"[r.Intn(2)]), r.near(), 0)
	a.Ends = a.Starts + int64(r.Intn(15))
	if r.Intn(4) == 0 {
		a.Labels = set("a1")
	}
	if r.Intn(3) == 0 {
		a.Ends = a.Starts + 30
	}
	return a
}

func (r *chance) silence() silence.Silence {
	s := quiet([]string{`{a="1"}`, `{a=~"1|2"}`, `{b="2"}`, `{b!="2"}`, `{a="3",b="1"}`, `{c=""}`, `{}`}[r.Intn(7)], r.near(), 0)
	s.Ends = s.Starts + int64(r.Intn(20))
	return s
}

func (r *chance) filter() *match.List {
	switch r.Intn(4) {
	case 0:
		return list(`{a="1"}`)
	case 1:
		return list(`{b!="1"}`)
	}
	return nil
}

// asked: anything, most often of what there is.
func (r *chance) asked() Op {
	o := Op{Kind: []int{Post, Post, Post, Create, Read, Update, Update, Update, Expire, Expire, Groups, Groups, Watch, Out, Tick}[r.Intn(15)]}
	o.ID = int64(r.Intn(int(r.m.next)+1) - r.Intn(2))
	if r.Intn(3) > 0 {
		// One of the last ones, most often.
		o.ID = max(r.m.next-1-int64(r.Intn(3)), 1)
	}
	for range r.Intn(4) {
		o.Alerts = append(o.Alerts, r.alert())
	}
	if len(o.Alerts) > 0 && r.Intn(3) == 0 {
		o.Alerts = append(o.Alerts, r.alert(), o.Alerts[0])
		o.Alerts[len(o.Alerts)-1].Ends += int64(r.Intn(9)) - 4
	}
	x := r.m.at[r.m.rev()][silence.Key(o.ID)]
	if o.Silence = r.silence(); o.Kind == Update && r.Intn(3) > 0 {
		o.Silence.Starts = x.silence.Starts
		o.Silence.Ends = r.m.now + 20
	}
	switch r.Intn(4) {
	case 0:
		o.Have = anyMark
	case 1:
		o.Have = marks(r.m.rev(), x.rev-1)
	default:
		o.Have = marks(x.rev)
	}
	o.Filter = r.filter()
	o.By = [][]string{nil, {"a"}, {"a", "b"}, {"b"}, {"c", "a"}}[r.Intn(5)]
	o.N = r.Intn(3)
	if len(r.cursors) > 0 && r.Intn(2) > 0 {
		o.Cursor = r.cursors[max(len(r.cursors)-1-r.Intn(6), 0)]
	}
	if r.Intn(9) == 0 {
		o.Cursor.At = r.Intn(9) - 2
	}
	o.Rev = r.m.rev() + 1 - int64(r.Intn(6))
	if r.Intn(4) == 0 {
		o.Rev = int64(r.Intn(len(r.m.notes) + 2))
	}
	o.T = int64(r.Intn(7))
	return o
}

// expectModel: the machine stands as the model.
func expectModel(t *testing.T, x *Machine, m *model) {
	t.Helper()
	expectStands(t, x, m.rev(), m.now, m.floor, len(m.pins))
	for _, rev := range []int64{m.floor, m.rev()} {
		a, s := m.stand(rev)
		expectAlerts(t, x, rev, a...)
		expectSilences(t, x, rev, s...)
	}
	for rev, want := range map[int64]api.Errno{-1: api.ErrArg, m.floor - 1: api.ErrGone, m.rev() + 1: api.ErrArg} {
		if rev == -1 {
			want = api.ErrArg
		}
		a, ea := x.Alerts(rev)
		s, es := x.Silences(rev)
		if len(a) != 0 || len(s) != 0 || ea != want || es != want {
			t.Errorf("at %d stand %s, %+v, %d, %d", rev, showAlerts(a), s, int(ea), int(es))
		}
	}
}

// P26.1, P26.2: machines by chance, step by step, against the chapter's words.
func TestMachinesByChance(t *testing.T) {
	seen := map[string]int{}
	for seed := range int64(200) {
		r := &chance{Rand: rand.New(rand.NewSource(26000 + seed))}
		c := Config{Keys: 1 + r.Intn(14), Log: 1 + r.Intn(12), Pins: 1 + r.Intn(3), Out: 1 + r.Intn(12), Stay: 1, Hold: 1 + int64(r.Intn(40)), By: [][]string{nil, {"a"}, {"a", "b"}}[r.Intn(3)]}
		c.Versions = 2*c.Keys + r.Intn(2)
		now := int64(r.Intn(20))
		if r.Intn(8) == 0 {
			now = api.MaxTime - int64(r.Intn(60))
		}
		r.m = newModel(c, now)
		m := New(c, now)
		for range 100 {
			o := r.asked()
			floor := r.m.floor
			want := r.m.do(o)
			expectDo(t, m, o, want)
			expectModel(t, m, r.m)
			if want.Next.Pin > 0 {
				r.cursors = append(r.cursors, want.Next)
			}
			seen[fmt.Sprint(o.Kind, " is ", int(want.Code))]++
			if want.Code == api.OK && r.m.floor > floor {
				seen[fmt.Sprint(o.Kind, " made room")]++
			}
			if t.Failed() {
				t.Fatalf("of seed %d, %+v", seed, c)
			}
		}
	}
	// Each kind, and each error that it may tell, came often.
	for kind, codes := range map[int][]api.Errno{
		Post: {api.OK, api.ErrArg, api.ErrFull}, Create: {api.OK, api.ErrArg, api.ErrFull}, Read: {api.OK, api.ErrNone},
		Update: {api.OK, api.ErrNone, api.ErrStale, api.ErrArg, api.ErrState, api.ErrFull}, Expire: {api.OK, api.ErrNone, api.ErrStale, api.ErrState, api.ErrFull},
		Groups: {api.OK, api.ErrFull, api.ErrGone}, Watch: {api.OK, api.ErrGone, api.ErrArg, api.ErrMore}, Out: {api.OK, api.ErrGone, api.ErrArg}, Tick: {api.OK, api.ErrArg},
	} {
		for _, code := range codes {
			if n := seen[fmt.Sprint(kind, " is ", int(code))]; n < 10 {
				t.Errorf("kind %d is %d %d times", kind, int(code), n)
			}
		}
	}
	for _, kind := range []int{Post, Create, Update, Expire, Tick} {
		if n := seen[fmt.Sprint(kind, " made room")]; n < 10 {
			t.Errorf("kind %d made room %d times", kind, n)
		}
	}
}

// P26.3: a Code that is not OK has not changed what is told of the revision,
// nor what Read tells.
func TestRefusedChangesNothing(t *testing.T) {
	n := 0
	for seed := range int64(40) {
		r := &chance{Rand: rand.New(rand.NewSource(263 + seed))}
		c := Config{Keys: 3 + r.Intn(3), Pins: 1, Log: 9, Out: 9, Hold: 9, By: []string{"a"}}
		m := New(c, 10)
		for range 200 {
			// The model is but what chance leans on.
			r.m = newModel(c, m.Now())
			l, _ := m.Silences(m.Rev())
			for len(r.m.at) <= int(m.Rev()) {
				r.m.at = append(r.m.at, map[string]thing{})
			}
			for _, s := range l {
				r.m.at[m.Rev()][silence.Key(s.ID)] = thing{silence: s}
			}
			all := func() string {
				text := state(m)
				for id := range int64(9) {
					text += show(m.Do(Op{Kind: Read, ID: id}))
				}
				return text
			}
			ahead := all()
			o := r.asked()
			if x := m.Do(o); x.Code != api.OK {
				n++
				if now := all(); now != ahead || show(x) != show(Reply{Code: x.Code}) {
					t.Fatalf("%+v is %s and left it\n%s\nnot\n%s", o, show(x), now, ahead)
				}
			}
		}
	}
	if n < 1000 {
		t.Errorf("%d were refused", n)
	}
}

// P26.4: pages by chance, with anything between, are those of the revision of
// the first one.
func TestPagesByChance(t *testing.T) {
	whole := 0
	for seed := range int64(150) {
		r := &chance{Rand: rand.New(rand.NewSource(264 + seed))}
		c := Config{Keys: 9, Versions: 40, Pins: 2, Log: 9, Out: 9, Hold: 1000, By: []string{"a"}}
		r.m = newModel(c, 10)
		m := New(c, 10)
		for range 20 {
			o := r.asked()
			m.Do(o)
			r.m.do(o)
		}
		o := Op{Kind: Groups, By: []string{"a", "b"}, N: 1, Filter: r.filter()}
		rev := m.Rev()
		want := r.m.groups(rev, o.By, o.Filter)
		for from := 0; ; from++ {
			x := m.Do(o)
			if x.Code == api.ErrGone {
				// A tick without room gives pages up.
				break
			}
			if x.Code == api.ErrFull {
				break
			}
			if x.Rev != rev || showGroups(x.Groups) != showGroups(want[from:min(from+1, len(want))]) {
				t.Fatalf("of seed %d page %d is %s, not of %s", seed, from, show(x), showGroups(want))
			}
			if o.Cursor = x.Next; x.Next.Pin == 0 {
				if from < len(want)-1 {
					t.Fatalf("of seed %d the pages end at %d", seed, from)
				}
				whole++
				break
			}
			for range 5 {
				if y := r.asked(); y.Kind != Groups {
					m.Do(y)
					r.m.do(y)
				}
			}
		}
	}
	if whole < 100 {
		t.Errorf("%d were told whole", whole)
	}
}

// P1: no call panics, whatever it is given.
func FuzzMachine(f *testing.F) {
	f.Add(int64(1), int64(0), 1, int64(1), int64(3), 2, int64(1))
	f.Add(int64(-5), int64(-1), -1, int64(-9), int64(-3), -2, int64(-1))
	f.Add(int64(api.MaxTime), int64(1)<<62, 1<<62, int64(1)<<62, int64(1)<<62, 1<<62, int64(1)<<62)
	f.Fuzz(func(t *testing.T, seed, now int64, size int, id, rev int64, n int, tick int64) {
		c := Config{size, 2 * size, size, size, size, tick, tick, []string{"a"}}
		m := New(c, now)
		r := &chance{Rand: rand.New(rand.NewSource(seed)), m: newModel(Right(c), m.Now())}
		for range 12 {
			o := r.asked()
			switch r.Intn(4) {
			case 0:
				o.ID, o.Rev, o.N, o.T = id, rev, n, tick
			case 1:
				o.Cursor, o.Kind = Cursor{id, n}, n
			}
			for i := range o.Alerts {
				if r.Intn(5) == 0 {
					o.Alerts[i].Starts, o.Alerts[i].Ends = id, rev
				}
			}
			if r.Intn(5) == 0 {
				o.Silence.ID, o.Silence.Starts, o.Silence.Ends = id, rev, tick
			}
			expectDo(t, m, o, r.m.do(o))
			expectModel(t, m, r.m)
		}
	})
}
