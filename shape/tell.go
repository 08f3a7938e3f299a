package shape

import (
	"larum/alert"
	"larum/api"
	"larum/clog"
	"larum/core"
	"larum/group"
	"larum/jval"
	"larum/mv"
	"larum/note"
	"larum/page"
	"larum/silence"
)

// noKind is of a value that can't be written.
const noKind = -1

// pair is a key, and what an object has by it.
type pair struct {
	key  string
	item jval.Value
}

// told: what a reply to a kind of what is asked tells.
func told(kind int, r core.Reply) jval.Value {
	if ofSilence(kind) {
		return silence.Value(r.Silence)
	}
	l := []pair{{keyRev, jval.OfNumber(r.Rev)}}
	switch kind {
	case core.Groups:
		l = append(l, pair{keyGroups, list(r.Groups, Group)})
		if r.Next.Pin > 0 {
			l = append(l, pair{keyNext, jval.OfText(page.Print(r.Next))})
		}
	case core.Watch:
		l = append(l, pair{keyChanges, list(r.Entries, entryValue)})
	case core.Out:
		l = append(l, pair{keyNotes, list(r.Notes, noteValue)})
	}
	return object(l...)
}

// memberValue: an alert, and by which silences it is held back.
func memberValue(m group.Member) jval.Value {
	v := alert.Value(m.Alert)
	v.Keys = append(v.Keys, keyBy)
	v.Items = append(v.Items, list(m.By, jval.OfNumber))
	return v
}

// entryValue: a change of the log.
func entryValue(x clog.Entry) jval.Value {
	return object(
		pair{keyRev, jval.OfNumber(x.Rev)},
		pair{keyKey, jval.OfText(x.Change.Key)},
		pair{keyValue, changedTo(x.Change)},
	)
}

// changedTo: what a key has from a change on.
func changedTo(c mv.Change) jval.Value {
	if c.Gone {
		return jval.Value{}
	}
	v, _, e := jval.Parse(c.Val, api.MaxDepth)
	if e != api.OK {
		// To tell null here would be to say that it is gone.
		return jval.Value{Kind: noKind}
	}
	return v
}

// noteValue: that a group fires, or does not any more.
func noteValue(x note.Entry) jval.Value {
	return object(
		pair{keySeq, jval.OfNumber(x.Seq)},
		pair{keyRev, jval.OfNumber(x.Rev)},
		pair{keyGroup, jval.OfText(x.Group)},
		pair{keyFiring, jval.OfBool(x.Firing)},
	)
}

// list: a list of what each of l is as JSON.
func list[T any](l []T, value func(x T) jval.Value) jval.Value {
	v := jval.Value{Kind: jval.List}
	for _, x := range l {
		v.Items = append(v.Items, value(x))
	}
	return v
}

// object: an object of pairs.
func object(l ...pair) jval.Value {
	v := jval.Value{Kind: jval.Object}
	for _, p := range l {
		v.Keys = append(v.Keys, p.key)
		v.Items = append(v.Items, p.item)
	}
	return v
}
