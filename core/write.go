package core

import (
	"errors"
	"maps"
	"math"
	"slices"

	"larum/alert"
	"larum/api"
	"larum/etag"
	"larum/group"
	"larum/mv"
	"larum/silence"
)

// post: alerts come, and are merged with those that stand there.
func (m *Machine) post(o Op) (Reply, error) {
	if len(o.Alerts) == 0 || slices.ContainsFunc(o.Alerts, isWrong) {
		return Reply{}, fault{"alerts", api.ErrArg}
	}
	if err := m.commit(m.posted(m.merged(o.Alerts))); err != nil {
		return Reply{}, err
	}
	return Reply{Rev: m.store.Rev()}, nil
}

// isWrong: may there be no such alert?
func isWrong(a alert.Alert) bool { return alert.Right(a) != api.OK }

// merged: what comes of alerts, one behind the other, by their keys.
func (m *Machine) merged(l []alert.Alert) map[string]alert.Alert {
	to := map[string]alert.Alert{}
	for _, a := range l {
		key := alert.Key(a)
		old, ok := to[key]
		if !ok {
			old, ok = m.alertBy(key)
		}
		if ok {
			a = alert.Merge(old, a)
		}
		to[key] = a
	}
	return to
}

// posted: the changes, by their keys, if alerts are put where they belong.
func (m *Machine) posted(by map[string]alert.Alert) []mv.Change {
	var l []mv.Change
	for _, key := range slices.Sorted(maps.Keys(by)) {
		a := by[key]
		if a.Ends > m.now {
			l = append(l, mv.Change{Key: key, Val: alert.Encode(a)})
		} else if _, ok := m.alertBy(key); ok {
			l = append(l, mv.Change{Key: key, Gone: true})
		}
	}
	return l
}

// create: a silence, by the next ID.
func (m *Machine) create(o Op) (Reply, error) {
	if e := silence.Right(o.Silence); e != api.OK {
		return Reply{}, fault{"silence", e}
	}
	s := o.Silence
	s.ID = m.last + 1
	r, err := m.put(silence.At(s, m.now))
	if err == nil {
		m.last = s.ID
	}
	return r, err
}

// update: what a silence says is what another one says from now on.
func (m *Machine) update(o Op) (Reply, error) {
	return m.change(o, func(s silence.Silence) (silence.Silence, api.Errno) {
		return silence.Update(s, o.Silence, m.now)
	})
}

// expire: a silence ends.
func (m *Machine) expire(o Op) (Reply, error) {
	return m.change(o, func(s silence.Silence) (silence.Silence, api.Errno) {
		return silence.Expire(s, m.now)
	})
}

// change: the silence that is asked for becomes another one, if it is in the
// version that is known to who asks.
func (m *Machine) change(o Op, to func(s silence.Silence) (silence.Silence, api.Errno)) (Reply, error) {
	s, tag, err := m.silenceBy(o.ID)
	if err != nil {
		return Reply{}, err
	}
	if !o.Have.Has(tag) {
		return Reply{}, fault{"mark", api.ErrStale}
	}
	s, e := to(s)
	if e != api.OK {
		return Reply{}, fault{"silence", e}
	}
	return m.put(s)
}

// put: a silence stands in the store as it is told.
func (m *Machine) put(s silence.Silence) (Reply, error) {
	if err := m.commit([]mv.Change{{Key: silence.Key(s.ID), Val: silence.Encode(s)}}); err != nil {
		return Reply{}, err
	}
	rev := m.store.Rev()
	return Reply{Rev: rev, Silence: s, Tag: etag.Of(rev)}, nil
}

// tick: the time goes on.
func (m *Machine) tick(o Op) (Reply, error) {
	if o.T < 1 {
		return Reply{}, fault{"time", api.ErrArg}
	}
	m.now += min(o.T, api.MaxTime-m.now)
	m.pins.Expire(m.now)
	l := append(m.endedAlerts(), m.otherSilences()...)
	err := m.commit(l)
	if errors.Is(err, api.ErrFull) {
		// The time can't be refused as all else can, so all pins go: then the
		// store is compacted at its revision, and there is room for all that
		// stands there to change.
		m.pins.Expire(math.MaxInt64)
		err = m.commit(l)
	}
	return Reply{Rev: m.store.Rev()}, err
}

// endedAlerts: the changes, if those whose time is over go.
func (m *Machine) endedAlerts() []mv.Change {
	items, _ := m.items(alerts, m.store.Rev())
	var l []mv.Change
	for _, x := range items {
		if alertOf(x).Ends <= m.now {
			l = append(l, mv.Change{Key: x.Key, Gone: true})
		}
	}
	return l
}

// otherSilences: the changes, if those that stand otherwise by now are told so.
func (m *Machine) otherSilences() []mv.Change {
	items, _ := m.items(silences, m.store.Rev())
	var l []mv.Change
	for _, x := range items {
		old := silenceOf(x)
		if s := silence.At(old, m.now); s.State != old.State {
			l = append(l, mv.Change{Key: x.Key, Val: silence.Encode(s)})
		}
	}
	return l
}

// commit makes changes, if there are any: all of them, or none, if there is no
// room even when what nobody holds any more is taken away.
func (m *Machine) commit(l []mv.Change) error {
	if len(l) == 0 {
		return nil
	}
	err := m.add(l)
	if errors.Is(err, api.ErrFull) {
		m.compact()
		err = m.add(l)
	}
	if err != nil {
		return err
	}
	m.log.Add(m.store.Rev(), l)
	m.step()
	return nil
}

// add: changes in the store alone.
func (m *Machine) add(l []mv.Change) error {
	_, e := m.store.Commit(l)
	return refused("store", e)
}

// compact: what nobody holds any more is taken away.
func (m *Machine) compact() {
	rev, ok := m.pins.Least()
	if !ok {
		rev = m.store.Rev()
	}
	if rev > m.store.Floor() {
		m.store.Compact(rev)
	}
}

// step: the outbox is told which groups fire by now. Of alerts that hangs on
// their labels alone, which stand in their keys, and are read far sooner there.
func (m *Machine) step() {
	rev := m.store.Rev()
	items, _ := m.items(alerts, rev)
	var l []alert.Alert
	for _, x := range items {
		labels, _ := labelsOf(x.Key)
		l = append(l, alert.Alert{Labels: labels})
	}
	s, _ := m.Silences(rev)
	m.out.Step(rev, group.Firing(group.Of(m.by, l, s, nil)))
}
