package core

import (
	"larum/api"
	"larum/group"
	"larum/match"
	"larum/mv"
)

// mostGroups is how many groups a page has at most.
const mostGroups = 1000

// read: a silence, and its mark.
func (m *Machine) read(o Op) (Reply, error) {
	s, tag, err := m.silenceBy(o.ID)
	if err != nil {
		return Reply{}, err
	}
	return Reply{Rev: m.store.Rev(), Silence: s, Tag: tag}, nil
}

// page: some of the groups of the revision that a pin holds.
func (m *Machine) page(o Op) (Reply, error) {
	id, err := m.pinned(o.Cursor.Pin)
	if err != nil {
		return Reply{}, err
	}
	rev, _ := m.pins.Rev(id)
	a, _ := m.Alerts(rev)
	s, _ := m.Silences(rev)
	l := group.Of(o.By, a, s, o.Filter)
	from := within(o.Cursor.At, 0, len(l))
	to := min(from+within(o.N, 1, mostGroups), len(l))
	// What is appended to a page is not to stand in the ones behind it.
	r := Reply{Rev: rev, Groups: l[from:to:to]}
	if to < len(l) {
		r.Next = Cursor{id, to}
	} else {
		m.pins.Drop(id)
	}
	return r, nil
}

// pinned: the pin that is asked for, or one more of the revision; it is held
// for some time from now on.
func (m *Machine) pinned(id int64) (int64, error) {
	until := m.now + m.hold
	if id == 0 {
		id, e := m.pins.Add(m.store.Rev(), until)
		return id, refused("pins", e)
	}
	if rev, ok := m.pins.Rev(id); !ok || m.store.Floor() > rev {
		return 0, fault{"pins", api.ErrGone}
	}
	m.pins.Keep(id, until)
	return id, nil
}

// watch: the changes behind a revision that fit.
func (m *Machine) watch(o Op) (Reply, error) {
	l, rev, e := m.log.Next(o.Rev, fitting(o.Filter))
	if e != api.OK {
		return Reply{}, fault{"log", e}
	}
	if len(l) == 0 {
		return Reply{}, fault{"log", api.ErrMore}
	}
	return Reply{Rev: rev, Entries: l}, nil
}

// fitting: which changes are told to who wants alerts of such labels alone.
// Whoever watches is told all silences.
func fitting(l *match.List) func(c mv.Change) bool {
	return func(c mv.Change) bool {
		labels, ok := labelsOf(c.Key)
		return !ok || l.Has(labels)
	}
}

// notes: what is to be told behind a number.
func (m *Machine) notes(o Op) (Reply, error) {
	l, e := m.out.Since(o.Rev)
	if e != api.OK {
		return Reply{}, fault{"outbox", e}
	}
	return Reply{Rev: m.store.Rev(), Notes: l}, nil
}
