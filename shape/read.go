package shape

import (
	"slices"
	"strconv"
	"strings"

	"larum/alert"
	"larum/api"
	"larum/clog"
	"larum/core"
	"larum/group"
	"larum/jval"
	"larum/label"
	"larum/mv"
	"larum/note"
	"larum/silence"
)

// alertKeys stands ahead of the labels in an alert's key.
const alertKeys = "a/"

// replyOf: the reply that body tells, if it is one's Body. What is not as it
// would be there is left out.
func replyOf(kind int, body string) (core.Reply, api.Errno) {
	if ofSilence(kind) {
		s, e := silence.Decode(body)
		return core.Reply{Silence: s}, e
	}
	// Of what is no JSON the value is null, in which nothing is found.
	v, _, _ := jval.Parse(body, api.MaxDepth)
	r, e := core.Reply{Rev: find(v, keyRev).N}, api.OK
	switch kind {
	case core.Groups:
		r.Next = cursorOf(find(v, keyNext).Text)
		r.Groups, e = listOf(find(v, keyGroups), OfGroup)
	case core.Watch:
		r.Entries, e = listOf(find(v, keyChanges), entryOf)
	case core.Out:
		r.Notes, e = listOf(find(v, keyNotes), noteOf)
	}
	return r, e
}

// cursorOf: the cursor whose text s may be. (page.Read takes no numbers above
// 2^31 - 1, but page.Print writes them.)
func cursorOf(s string) core.Cursor {
	pin, at, _ := strings.Cut(strings.TrimPrefix(s, "p"), ".")
	// What can't be read so is written otherwise, so there is no error.
	n, _ := strconv.ParseInt(pin, 10, 64)
	m, _ := strconv.Atoi(at)
	return core.Cursor{Pin: n, At: m}
}

// memberOf: the alert that v is as JSON, with what holds it back.
func memberOf(v jval.Value) (group.Member, api.Errno) {
	own := jval.Value{Kind: jval.Object, Keys: alert.Value(alert.Alert{}).Keys}
	for _, key := range own.Keys {
		own.Items = append(own.Items, find(v, key))
	}
	if !hasJust(v, append(own.Keys, keyBy)...) {
		return group.Member{}, api.ErrForm
	}
	by, e := listOf(find(v, keyBy), numberOf)
	if e != api.OK {
		return group.Member{}, e
	}
	// As it says both times, no others are asked for.
	a, e := alert.Read(own, 0, 0)
	return group.Member{Alert: a, By: by}, e
}

func numberOf(v jval.Value) (int64, api.Errno) {
	if v.Kind != jval.Number {
		return 0, api.ErrForm
	}
	return v.N, api.OK
}

// entryOf: the change of the log that v tells.
func entryOf(v jval.Value) (clog.Entry, api.Errno) {
	to := find(v, keyValue)
	c := mv.Change{Key: find(v, keyKey).Text, Gone: to.Kind == jval.Null}
	if !c.Gone {
		c.Val = written(to)
	}
	return clog.Entry{Rev: find(v, keyRev).N, Change: c}, wrongFor(c)
}

// wrongFor: what keeps a change from being told of the thing whose key it has.
func wrongFor(c mv.Change) api.Errno {
	var e api.Errno
	switch {
	case c.Gone:
	case isAlert(c.Key):
		_, e = alert.Decode(c.Val)
	case isSilence(c.Key):
		_, e = silence.Decode(c.Val)
	}
	return e
}

// isAlert: is it an alert's key?
func isAlert(key string) bool {
	labels, ok := strings.CutPrefix(key, alertKeys)
	_, e := label.Parse(labels)
	return ok && e == api.OK
}

// isSilence: is it a silence's key?
func isSilence(key string) bool {
	_, ok := silence.OfKey(key)
	return ok
}

// noteOf: what of the outbox v tells.
func noteOf(v jval.Value) (note.Entry, api.Errno) {
	return note.Entry{
		Seq:    find(v, keySeq).N,
		Rev:    find(v, keyRev).N,
		Group:  find(v, keyGroup).Text,
		Firing: find(v, keyFiring).Is,
	}, api.OK
}

// listOf: what the Items of a list are; the first error of one.
func listOf[T any](v jval.Value, of func(x jval.Value) (T, api.Errno)) ([]T, api.Errno) {
	if v.Kind != jval.List {
		return nil, api.ErrForm
	}
	var l []T
	for _, x := range v.Items {
		y, e := of(x)
		if e != api.OK {
			return nil, e
		}
		l = append(l, y)
	}
	return l, api.OK
}

// find: what an object has by a key; null, if it lacks it. (jval.Get copies all
// that is within that, which is of no use here, and does not end of a value
// that holds itself.)
func find(v jval.Value, key string) jval.Value {
	at := slices.Index(v.Keys, key)
	if v.Kind != jval.Object || at < 0 || at >= len(v.Items) {
		return jval.Value{}
	}
	return v.Items[at]
}

// hasJust: is v an object of just these keys, in any order?
func hasJust(v jval.Value, keys ...string) bool {
	if v.Kind != jval.Object || len(v.Keys) != len(keys) || len(v.Items) != len(keys) {
		return false
	}
	// As they are as many, none of them stands twice.
	return !slices.ContainsFunc(keys, func(key string) bool { return !slices.Contains(v.Keys, key) })
}
