package core

import (
	"math"
	"strings"

	"larum/alert"
	"larum/api"
	"larum/etag"
	"larum/label"
	"larum/mv"
	"larum/silence"
)

// What stands ahead in the store's keys.
const (
	alerts   = "a/"
	silences = "s/"
)

// items: what stands in the store at a revision, by keys that begin alike.
func (m *Machine) items(prefix string, rev int64) ([]mv.Item, api.Errno) {
	l, _, e := m.store.Range(prefix, "", math.MaxInt, rev)
	return l, e
}

// alertBy: the alert that stands by a key; is there one?
func (m *Machine) alertBy(key string) (alert.Alert, bool) {
	x, e := m.store.Get(key, m.store.Rev())
	if e != api.OK {
		return alert.Alert{}, false
	}
	return alertOf(x), true
}

// silenceBy: the silence that stands by an ID, and its mark.
func (m *Machine) silenceBy(id int64) (silence.Silence, etag.Tag, error) {
	x, e := m.store.Get(silence.Key(id), m.store.Rev())
	if e != api.OK {
		return silence.Silence{}, etag.Tag{}, fault{"store", e}
	}
	return silenceOf(x), etag.Of(x.Rev), nil
}

// alertOf: the alert that an item is. In the store stands what Encode wrote
// alone, so there is no error.
func alertOf(x mv.Item) alert.Alert {
	a, _ := alert.Decode(x.Val)
	return a
}

// silenceOf: the silence that an item is.
func silenceOf(x mv.Item) silence.Silence {
	s, _ := silence.Decode(x.Val)
	return s
}

// labelsOf: the labels of the alert that stands by a key; false, if it is a
// silence's key.
func labelsOf(key string) (label.Set, bool) {
	text, ok := strings.CutPrefix(key, alerts)
	if !ok {
		return label.Set{}, false
	}
	l, _ := label.Parse(text)
	return l, true
}
