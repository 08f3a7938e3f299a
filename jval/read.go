package jval

import (
	"errors"
	"strconv"

	"larum/api"
	"larum/jtok"
)

// fault is what is amiss with a value's text, and where the token begins that
// does not fit.
type fault struct {
	at int
	no api.Errno
}

func (f fault) Error() string { return f.no.Error() + " at " + strconv.Itoa(f.at) }

func (f fault) Unwrap() error { return f.no }

// unfit: the fault of a token that may not stand where it stands.
func unfit(t jtok.Token) error { return fault{t.From, api.ErrForm} }

// reader goes over the tokens of a text.
type reader struct {
	s  string
	at int // where the last token ended
}

// part is a list or an object as far as it was read.
type part struct {
	v    Value
	last int                 // the kind of token that ends it
	had  map[string]struct{} // an object's keys, to ask them fast
	room int                 // how deep what is in it may be
}

// next: the next token; api.ErrNone, if there is none any more.
func (r *reader) next() (jtok.Token, error) {
	t, e := jtok.Next(r.s, r.at)
	if e != api.OK {
		// Of what is left All tells where its first token begins, as that is
		// the wrong one.
		_, from, _ := jtok.All(r.s[r.at:])
		return jtok.Token{}, fault{r.at + from, e}
	}
	r.at = t.To
	return t, nil
}

// whole reads a value with nothing behind it.
func (r *reader) whole(room int) (Value, error) {
	t, err := r.next()
	if err != nil {
		return Value{}, err
	}
	v, err := r.value(t, room)
	if err != nil {
		return Value{}, err
	}
	t, err = r.next()
	if errors.Is(err, api.ErrNone) {
		return v, nil
	}
	if err != nil {
		return Value{}, err
	}
	return Value{}, unfit(t)
}

// value reads the value that begins with t.
func (r *reader) value(t jtok.Token, room int) (Value, error) {
	switch t.Kind {
	case jtok.Null:
		return Value{}, nil
	case jtok.True, jtok.False:
		return OfBool(t.Kind == jtok.True), nil
	case jtok.Number:
		return OfNumber(t.N), nil
	case jtok.Text:
		return OfText(t.Text), nil
	case jtok.Open, jtok.List:
		return r.parts(t, room)
	}
	return Value{}, unfit(t)
}

// parts reads the list or the object that begins with t.
func (r *reader) parts(t jtok.Token, room int) (Value, error) {
	if room < 1 {
		return Value{}, fault{t.From, api.ErrDeep}
	}
	p := part{v: Value{Kind: List}, last: jtok.End, room: room - 1}
	if t.Kind == jtok.Open {
		p = part{v: Value{Kind: Object}, last: jtok.Close, room: room - 1, had: map[string]struct{}{}}
	}
	t, err := r.next()
	if err != nil {
		return Value{}, err
	}
	if t.Kind == p.last {
		return p.v, nil
	}
	for {
		if err := r.item(&p, t); err != nil {
			return Value{}, err
		}
		var more bool
		if t, more, err = r.behindItem(p.last); err != nil {
			return Value{}, err
		}
		if !more {
			return p.v, nil
		}
	}
}

// item reads what begins with t: an object's item is a list's with a key
// ahead of it.
func (r *reader) item(p *part, t jtok.Token) error {
	var x Value
	var err error
	switch p.v.Kind {
	case Object:
		if t, err = r.key(p, t); err != nil {
			return err
		}
		fallthrough
	case List:
		if x, err = r.value(t, p.room); err != nil {
			return err
		}
		p.v.Items = append(p.v.Items, x)
	}
	return nil
}

// key reads the key t, and the colon: the token behind that.
func (r *reader) key(p *part, t jtok.Token) (jtok.Token, error) {
	if _, had := p.had[t.Text]; had || t.Kind != jtok.Text {
		return jtok.Token{}, unfit(t)
	}
	p.had[t.Text] = struct{}{}
	p.v.Keys = append(p.v.Keys, t.Text)
	t, err := r.next()
	if err != nil {
		return jtok.Token{}, err
	}
	if t.Kind != jtok.Colon {
		return jtok.Token{}, unfit(t)
	}
	return r.next()
}

// behindItem reads the comma behind an item, and the token with which the
// next one begins; or, without any more, the last token.
func (r *reader) behindItem(last int) (jtok.Token, bool, error) {
	t, err := r.next()
	if err != nil || t.Kind == last {
		return jtok.Token{}, false, err
	}
	if t.Kind != jtok.Comma {
		return jtok.Token{}, false, unfit(t)
	}
	t, err = r.next()
	return t, err == nil, err
}
