package reply

import (
	"strings"

	"larum/api"
	"larum/chars"
	"larum/head"
	"larum/num"
)

// Parse: the reply whose bytes s begins with, and how many these are.
func Parse(s string) (Reply, int, api.Errno) {
	top, behind, ended := strings.Cut(s, lineEnd+lineEnd)
	if !ended {
		return Reply{}, 0, api.ErrMore
	}
	lines := strings.Split(top, lineEnd)
	size, whole := length(lines[len(lines)-1], len(behind))
	if !whole {
		return Reply{}, 0, api.ErrMore
	}
	r, ok := ofLines(lines, behind[:size])
	if !ok {
		return Reply{}, 0, api.ErrForm
	}
	// There is one way to write a reply: what stands there otherwise is none.
	b, e := Encode(r)
	if e != api.OK || !strings.HasPrefix(s, b) {
		return Reply{}, 0, api.ErrForm
	}
	return r, len(b), api.OK
}

// length: how long a body is by the last line of a head (0, if that says
// nothing of it), and true, if so many bytes have come.
func length(line string, come int) (int, bool) {
	f, ok := head.OfField(line)
	if !ok || !chars.Same(f.Name, fieldLength) {
		return 0, true
	}
	n, e := num.Size(f.Value)
	// What is too great for a number is more than ever comes.
	if e == api.ErrLong || n > come {
		return 0, false
	}
	return n, true
}

// ofLines: the reply that a head's lines may be of, with that body.
func ofLines(lines []string, body string) (Reply, bool) {
	rest, ok := strings.CutPrefix(lines[0], version)
	if !ok {
		return Reply{}, false
	}
	digits, _, _ := strings.Cut(rest, " ")
	status, e := num.Size(digits)
	if e != api.OK {
		return Reply{}, false
	}
	r := Of(status, body)
	fields := lines[1:]
	if !Bare(status) {
		// The last one is the length's.
		fields = fields[:max(len(fields)-1, 0)]
	}
	for _, line := range fields {
		f, ok := head.OfField(line)
		if !ok {
			return Reply{}, false
		}
		r.Fields = append(r.Fields, f)
	}
	return r, true
}
