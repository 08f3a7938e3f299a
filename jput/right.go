package jput

import (
	"errors"
	"strconv"

	"larum/api"
	"larum/jval"
	"larum/utf"
)

// fault is what is amiss with a part of a value, and how many lists and
// objects that part stands in.
type fault struct {
	in int
	no api.Errno
}

func (f fault) Error() string { return f.no.Error() + " within " + strconv.Itoa(f.in) }

func (f fault) Unwrap() error { return f.no }

// Right: can v be written? Else why not.
func Right(v jval.Value) api.Errno {
	err := checkDepth(v, 0)
	if err == nil {
		err = checkForm(v, 0)
	}
	var f fault
	if errors.As(err, &f) {
		return f.no
	}
	return api.OK
}

// checkDepth looks for a list or an object that is too deep in. It stops at
// the first one (jval.Depth would not), so it ends though a value made by hand
// holds itself.
func checkDepth(v jval.Value, in int) error {
	switch v.Kind {
	case jval.Object:
		fallthrough
	case jval.List:
		if in == api.MaxDepth {
			return fault{in, api.ErrDeep}
		}
		return checkItems(v, in, checkDepth)
	}
	return nil
}

// checkForm looks for all else that is not right. An object is looked at for
// its keys, and then as a list is.
func checkForm(v jval.Value, in int) error {
	switch v.Kind {
	case jval.Null, jval.Bool, jval.Number:
		return nil
	case jval.Text:
		if utf.Valid(v.Text) {
			return nil
		}
	case jval.Object:
		if !rightKeys(v) {
			break
		}
		fallthrough
	case jval.List:
		return checkItems(v, in, checkForm)
	}
	return fault{in, api.ErrForm}
}

// checkItems: what is amiss with the first such item of a list or an object.
func checkItems(v jval.Value, in int, check func(x jval.Value, in int) error) error {
	for _, x := range v.Items {
		if err := check(x, in+1); err != nil {
			return err
		}
	}
	return nil
}

// rightKeys: has an object an item by each key, and are its keys valid, none
// twice?
func rightKeys(v jval.Value) bool {
	if len(v.Keys) != len(v.Items) {
		return false
	}
	had := map[string]struct{}{}
	for _, key := range v.Keys {
		if _, twice := had[key]; twice || !utf.Valid(key) {
			return false
		}
		had[key] = struct{}{}
	}
	return true
}
