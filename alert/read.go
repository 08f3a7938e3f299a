package alert

import (
	"errors"
	"slices"
	"strconv"

	"larum/api"
	"larum/clock"
	"larum/jval"
	"larum/label"
)

// fault is what a client said wrongly, and by which key, if it is of one.
type fault struct {
	key string
	no  api.Errno
}

func (f fault) Error() string { return f.no.Error() + " at " + strconv.Quote(f.key) }

func (f fault) Unwrap() error { return f.no }

// Decode: the alert whose text s is.
func Decode(s string) (Alert, api.Errno) {
	v, _, e := jval.Parse(s, api.MaxDepth)
	_, noStart := timeBy(v, keyStarts)
	_, noEnd := timeBy(v, keyEnds)
	if e != api.OK || noStart != nil || noEnd != nil {
		return Alert{}, api.ErrForm
	}
	// As it says both times, no others are asked for.
	return Read(v, 0, 0)
}

// Read: the alert that a client says at a time, which stays so long, if it
// does not say until when.
func Read(v jval.Value, now, stay int64) (Alert, api.Errno) {
	a, err := said(v, nearest(now), nearest(stay))
	// Of all that is joined As finds the first one, which counts.
	var f fault
	if errors.As(err, &f) {
		return Alert{}, f.no
	}
	return a, api.OK
}

// SetOf: the set whose pairs an object of texts has.
func SetOf(v jval.Value) (label.Set, api.Errno) {
	if !isObject(v) {
		return label.Set{}, api.ErrForm
	}
	l := make([]label.Pair, len(v.Keys))
	for i, x := range v.Items {
		if x.Kind != jval.Text {
			return label.Set{}, api.ErrForm
		}
		l[i] = label.Pair{Name: v.Keys[i], Value: x.Text}
	}
	return label.Of(l...)
}

// said: the alert that v says, and all that is wrong with it, joined: first
// what can't be read, then what may not be.
func said(v jval.Value, now, stay int64) (Alert, error) {
	if !isObject(v) {
		return Alert{}, fault{"", api.ErrForm}
	}
	starts, noStart := timeBy(v, keyStarts)
	if errors.Is(noStart, api.ErrNone) {
		starts, noStart = now, nil
	}
	ends, noEnd := timeBy(v, keyEnds)
	if errors.Is(noEnd, api.ErrNone) {
		ends, noEnd = max(starts, now)+stay, nil
	}
	labels, noLabels := setBy(v, keyLabels)
	notes, noNotes := setBy(v, keyNotes)
	a := Alert{labels, notes, starts, ends}
	return a, errors.Join(others(v), noStart, noEnd, noLabels, noNotes, wrong(a))
}

// timeBy: the time that an object has by a key; a fault of ErrNone, if it lacks
// it.
func timeBy(v jval.Value, key string) (int64, error) {
	x, ok := find(v, key)
	if !ok {
		return 0, fault{key, api.ErrNone}
	}
	sec, e := clock.Parse(x.Text)
	if x.Kind != jval.Text || e != api.OK {
		return 0, fault{key, api.ErrForm}
	}
	return sec, nil
}

// setBy: the set that an object has by a key; the empty one, if it lacks it.
func setBy(v jval.Value, key string) (label.Set, error) {
	x, ok := find(v, key)
	if !ok {
		return label.Set{}, nil
	}
	s, e := SetOf(x)
	if e != api.OK {
		// Whatever keeps a set from being one, it can't be read.
		return label.Set{}, fault{key, api.ErrForm}
	}
	return s, nil
}

// others: what is wrong with the keys of an object.
func others(v jval.Value) error {
	for _, key := range v.Keys {
		switch key {
		case keyLabels, keyNotes, keyStarts, keyEnds:
		default:
			return fault{key, api.ErrForm}
		}
	}
	return nil
}

// wrong: what is wrong with an alert that could be read.
func wrong(a Alert) error {
	if e := Right(a); e != api.OK {
		return fault{"", e}
	}
	return nil
}

// isObject: is v an object that has an item by each key?
func isObject(v jval.Value) bool {
	return v.Kind == jval.Object && len(v.Keys) == len(v.Items)
}

// find: what an object has by a key. (jval.Get copies all that is within that,
// which is of no use here, and does not end of a value that holds itself.)
func find(v jval.Value, key string) (jval.Value, bool) {
	at := slices.Index(v.Keys, key)
	if at < 0 {
		return jval.Value{}, false
	}
	return v.Items[at], true
}
