package chunk

import (
	"strings"

	"larum/head"
)

// step takes what stands next, and answers the step behind it: nothing behind
// the last one, and where there is a status.
type step func() step

// reader goes over a body in chunks.
type reader struct {
	s      string
	at     int // where the next step begins
	limits head.Limits
	size   int             // of the chunk whose line was read last
	fields int             // how many were read
	body   strings.Builder // the chunks' bytes
	status int
}

func (r *reader) run() {
	for next := step(r.sizeLine); next != nil; {
		next = next()
	}
}

func (r *reader) refuse(status int) step {
	r.status = status
	return nil
}

// sizeLine takes the line ahead of a chunk's bytes.
func (r *reader) sizeLine() step {
	line, ok := r.line(badRequest)
	if !ok {
		return nil
	}
	size, status := Size(line, r.limits.Body-r.body.Len())
	if status != 0 {
		return r.refuse(status)
	}
	if size == 0 {
		return r.fieldLine
	}
	r.size = size
	return r.bytes
}

// bytes takes a chunk's bytes.
func (r *reader) bytes() step {
	end := r.at + r.size
	if len(r.s) < end {
		return r.refuse(head.More)
	}
	r.body.WriteString(r.s[r.at:end])
	r.at = end
	return r.bytesEnd
}

// bytesEnd takes the line's end behind a chunk's bytes.
func (r *reader) bytesEnd() step {
	rest := r.s[r.at:]
	if strings.HasPrefix(rest, lineEnd) {
		r.at += len(lineEnd)
		return r.sizeLine
	}
	// It may have come in part.
	if strings.HasPrefix(lineEnd, rest) {
		return r.refuse(head.More)
	}
	return r.refuse(badRequest)
}

// fieldLine takes a line behind the last chunk: a field's, or the empty one
// that ends it all. What fields say is not asked for.
func (r *reader) fieldLine() step {
	line, ok := r.line(tooManyFields)
	if !ok || line == "" {
		return nil
	}
	if r.fields == r.limits.Fields {
		return r.refuse(tooManyFields)
	}
	if _, ok := head.OfField(line); !ok {
		return r.refuse(badRequest)
	}
	r.fields++
	return r.fieldLine
}

// line: the next line, without its end, and true; false, if it has not ended,
// or is too long, for which the status is long.
func (r *reader) line(long int) (string, bool) {
	line, size, ok := head.Line(r.s[r.at:], r.limits.Line)
	if !ok {
		r.status = long
		return "", false
	}
	if size == 0 {
		r.status = head.More
		return "", false
	}
	r.at += size
	return line, true
}
