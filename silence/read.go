package silence

import (
	"errors"
	"slices"
	"strconv"

	"larum/api"
	"larum/clock"
	"larum/jval"
	"larum/match"
)

// fault is what was said wrongly, and by which key, if it is of one.
type fault struct {
	key string
	no  api.Errno
}

func (f fault) Error() string { return f.no.Error() + " at " + strconv.Quote(f.key) }

func (f fault) Unwrap() error { return f.no }

// Decode: the silence whose text t is, as Encode writes it.
func Decode(t string) (Silence, api.Errno) {
	// Within the object there is nothing that is deep.
	v, _, _ := jval.Parse(t, 1)
	s := stored(v)
	// A text that is not as Encode writes it, or no value's at all, is told by
	// this alone: what it says is written otherwise.
	if !isState(s.State) || Right(s) != api.OK || Encode(s) != t {
		return Silence{}, api.ErrForm
	}
	return s, api.OK
}

// Read: the silence that a client says at a time.
func Read(v jval.Value, now int64) (Silence, api.Errno) {
	s, err := said(v, now)
	// Of all that is joined As finds the first one, which counts.
	var f fault
	if errors.As(err, &f) {
		return Silence{}, f.no
	}
	return At(s, now), api.OK
}

// said: the silence that v says, and what is wrong with it, joined: first what
// can't be read, then what may not be.
func said(v jval.Value, now int64) (Silence, error) {
	if err := checkForm(v); err != nil {
		return Silence{}, err
	}
	starts := nearest(now)
	var noStart error
	if slices.Contains(v.Keys, keyStarts) {
		starts, noStart = timeBy(v, keyStarts)
	}
	ends, noEnd := timeBy(v, keyEnds)
	list, noList := listBy(v, keyMatch)
	s := Silence{Match: list.String(), Starts: starts, Ends: ends, By: find(v, keyBy).Text, Note: find(v, keyNote).Text}
	return s, errors.Join(noStart, noEnd, noList, wrong(s))
}

// checkForm: what keeps v from being an object of texts, by keys that a client
// may say.
func checkForm(v jval.Value) error {
	if v.Kind != jval.Object || len(v.Keys) != len(v.Items) {
		return fault{"", api.ErrForm}
	}
	for i, key := range v.Keys {
		switch key {
		case keyMatch, keyStarts, keyEnds, keyBy, keyNote:
		default:
			return fault{key, api.ErrForm}
		}
		if v.Items[i].Kind != jval.Text {
			return fault{key, api.ErrForm}
		}
	}
	return nil
}

// timeBy: the time that an object has by a key. Of what lacks there is none, as
// an empty text is no time's.
func timeBy(v jval.Value, key string) (int64, error) {
	sec, e := clock.Parse(find(v, key).Text)
	if e != api.OK {
		// A time that is too late is none either.
		return 0, fault{key, api.ErrForm}
	}
	return sec, nil
}

// listBy: the list that an object has by a key. Of what lacks there is none, as
// an empty text is no list's.
func listBy(v jval.Value, key string) (*match.List, error) {
	l, e := match.Parse(find(v, key).Text)
	if e != api.OK {
		return nil, fault{key, e}
	}
	return l, nil
}

// find: what an object has by a key; null, if it lacks it. (jval.Get copies all
// that is within that, which is of no use here, and does not end of a value
// that holds itself.)
func find(v jval.Value, key string) jval.Value {
	at := slices.Index(v.Keys, key)
	if at < 0 {
		return jval.Value{}
	}
	return v.Items[at]
}

// wrong: what is wrong with a silence that could be read.
func wrong(s Silence) error {
	if e := Right(s); e != api.OK {
		return fault{"", e}
	}
	return nil
}

// stored: the silence whose Value v is, if it is one's. What v lacks, or has
// otherwise, is left out.
func stored(v jval.Value) Silence {
	starts, _ := timeBy(v, keyStarts)
	ends, _ := timeBy(v, keyEnds)
	return Silence{
		ID:     find(v, keyID).N,
		Match:  find(v, keyMatch).Text,
		Starts: starts,
		Ends:   ends,
		By:     find(v, keyBy).Text,
		Note:   find(v, keyNote).Text,
		State:  find(v, keyState).Text,
	}
}

func isState(s string) bool { return s == Pending || s == Active || s == Expired }
