package route

import (
	"larum/api"
	"larum/core"
	"larum/etag"
	"larum/head"
	"larum/num"
	"larum/page"
	"larum/pct"
	"larum/shape"
	"larum/wire"
)

// fieldHave is the field of the marks that one who writes has.
const fieldHave = "If-Match"

// status is why a request asks nothing.
type status int

func (s status) Error() string { return "status " + num.Print(int64(s)) }

// fault is what is wrong with a request, and in which part of it.
type fault struct {
	part string
	why  status
}

func (f fault) Error() string { return f.part + ": " + f.why.Error() }

func (f fault) Unwrap() error { return f.why }

// asked: what a request asks, part by part, up to the first one that is wrong.
func asked(r wire.Request, now, stay int64) (Ask, error) {
	parts, pairs, e := pct.Split(r.Head.Target)
	if e != api.OK {
		return Ask{}, fault{"target", badRequest}
	}
	kind, id, no := Kind(r.Head.Method, parts)
	if no != 0 {
		return Ask{}, fault{"target", status(no)}
	}
	q, e := page.Parse(pairs, may(kind)...)
	if e != api.OK {
		return Ask{}, fault{"query", badRequest}
	}
	if r.Body != "" && !hasBody(kind) {
		return Ask{}, fault{"body", badRequest}
	}
	o := core.Op{Kind: kind, ID: id, Filter: q.Filter, By: q.By, N: q.N, Cursor: q.Cursor, Rev: q.Rev}
	err := say(&o, r, now, stay)
	return Ask{o, q.Wait}, err
}

// may: which pairs may stand in the query.
func may(kind int) []string {
	switch kind {
	case core.Groups:
		return []string{"filter", "by", "n", "cursor"}
	case core.Watch:
		return []string{"filter", "rev", "wait"}
	case core.Out:
		return []string{"rev"}
	}
	return nil
}

// hasBody: does a body say what is asked?
func hasBody(kind int) bool {
	switch kind {
	case core.Post:
		fallthrough
	case core.Create:
		fallthrough
	case core.Update:
		return true
	}
	return false
}

// say: what the marks and the body of a request say stands in what is asked.
func say(o *core.Op, r wire.Request, now, stay int64) error {
	e := api.OK
	switch o.Kind {
	case core.Post:
		o.Alerts, e = shape.Alerts(r.Body, now, stay)
	case core.Expire:
		return have(o, r.Head)
	case core.Update:
		if err := have(o, r.Head); err != nil {
			return err
		}
		fallthrough
	case core.Create:
		o.Silence, e = shape.Silence(r.Body, now)
	}
	if e != api.OK {
		return fault{"body", badRequest}
	}
	return nil
}

// have: the marks that one who writes has stand in what is asked.
func have(o *core.Op, h head.Head) error {
	l := head.Values(h, fieldHave)
	if len(l) == 0 {
		return fault{fieldHave, noMark}
	}
	list, e := etag.Parse(l[0])
	if len(l) > 1 || e != api.OK {
		return fault{fieldHave, badRequest}
	}
	o.Have = list
	return nil
}
