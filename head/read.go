package head

import (
	"errors"
	"strconv"
	"strings"

	"larum/api"
	"larum/chars"
	"larum/num"
)

// status is what is wrong with a request, or that more of it is needed.
type status int

const (
	more          status = More
	badRequest    status = 400
	tooLarge      status = 413 // a body
	tooLongTarget status = 414
	tooManyFields status = 431 // or one that is too long
	notDone       status = 501
	otherVersion  status = 505
)

const (
	fieldLength   = "Content-Length"
	fieldEncoding = "Transfer-Encoding"
	protocol      = "HTTP/" // ahead of a version's digits
	versionSize   = len("HTTP/1.1")
)

func (s status) Error() string { return "status " + strconv.Itoa(int(s)) }

// fault is a status, or a number's error, and the line of the head in which
// it came; the first one is 1.
type fault struct {
	line int
	why  error
}

func (f fault) Error() string { return f.why.Error() + " in line " + strconv.Itoa(f.line) }

func (f fault) Unwrap() error { return f.why }

// told: the status that an error is; 0, if there is none.
func told(err error) int {
	var no status
	if errors.As(err, &no) {
		return int(no)
	}
	return 0
}

// reader goes over the lines of a head.
type reader struct {
	s      string
	at     int // where the next line begins
	line   int // which line was read last
	limits Limits
}

func (r *reader) fault(why status) error { return fault{r.line, why} }

// next: the next line, without its end; if it is too long, that status.
func (r *reader) next(long status) (string, error) {
	r.line++
	line, size, ok := Line(r.s[r.at:], r.limits.Line)
	if !ok {
		return "", r.fault(long)
	}
	if size == 0 {
		return "", r.fault(more)
	}
	r.at += size
	return line, nil
}

func (r *reader) head() (Head, error) {
	h, err := r.first()
	if err != nil {
		return Head{}, err
	}
	if h.Fields, err = r.fields(); err != nil {
		return Head{}, err
	}
	if h.Minor != 0 && len(places(h, "Host")) != 1 {
		return Head{}, r.fault(badRequest)
	}
	return h, nil
}

// first reads the first line. One that is bad is none, as no part of it takes
// an A or a D.
func (r *reader) first() (Head, error) {
	line, err := r.next(tooLongTarget)
	if err != nil {
		return Head{}, err
	}
	// No part has a blank in it, so there are just three.
	parts := strings.Split(line, " ")
	if len(parts) != 3 || !isMethod(parts[0]) || !isTarget(parts[1]) || !isVersion(parts[2]) {
		return Head{}, r.fault(badRequest)
	}
	if major(parts[2]) != 1 {
		return Head{}, r.fault(otherVersion)
	}
	if !known(parts[0]) {
		return Head{}, r.fault(notDone)
	}
	return Head{Method: parts[0], Target: parts[1], Minor: minor(parts[2])}, nil
}

// fields reads the fields' lines, and the empty one behind them. A line that
// is bad is no field's.
func (r *reader) fields() ([]Field, error) {
	var l []Field
	for {
		line, err := r.next(tooManyFields)
		if err != nil {
			return nil, err
		}
		if line == "" {
			return l, nil
		}
		if len(l) == r.limits.Fields {
			return nil, r.fault(tooManyFields)
		}
		f, ok := OfField(line)
		if !ok {
			return nil, r.fault(badRequest)
		}
		l = append(l, f)
	}
}

func isMethod(s string) bool { return s != "" && chars.All(s, chars.Token) }

func isTarget(s string) bool { return strings.HasPrefix(s, "/") && chars.All(s, chars.Visible) }

func isVersion(s string) bool {
	return len(s) == versionSize && strings.HasPrefix(s, protocol) &&
		chars.Digit(s[versionSize-3]) && s[versionSize-2] == '.' && chars.Digit(s[versionSize-1])
}

// major, minor: the first and the second number of a version.
func major(version string) int { return int(version[versionSize-3] - '0') }
func minor(version string) int { return int(version[versionSize-1] - '0') }

// known: is it one of the methods that are done? All of them do what the last
// one does.
func known(method string) bool {
	switch method {
	case "GET":
		fallthrough
	case "POST":
		fallthrough
	case "PUT":
		fallthrough
	case "DELETE":
		return true
	}
	return false
}

// body: the kind and the size of a head's body, of at most so many bytes.
func body(h Head, most int) (int, int, error) {
	// Both fields together are refused as one of them twice is.
	l := places(h, fieldLength, fieldEncoding)
	if len(l) == 0 {
		return Sized, 0, nil
	}
	if len(l) > 1 {
		return 0, 0, fault{lineOf(l[1]), badRequest}
	}
	f, line := h.Fields[l[0]], lineOf(l[0])
	if chars.Same(f.Name, fieldEncoding) {
		return Chunked, 0, encoding(f.Value, h.Minor, line)
	}
	n, err := length(f.Value, most, line)
	return Sized, n, err
}

// lineOf: in which line of a head a field stands.
func lineOf(place int) int { return place + 2 }

// encoding: what is amiss with how a body is encoded.
func encoding(value string, minor, line int) error {
	if minor == 0 {
		return fault{line, badRequest}
	}
	if !chars.Same(value, "chunked") {
		return fault{line, notDone}
	}
	return nil
}

// length: how long a body is that says so.
func length(value string, most, line int) (int, error) {
	n, err := number(value, line)
	if errors.Is(err, api.ErrForm) {
		return 0, fault{line, badRequest}
	}
	// What is too great for a number is above most, too.
	if errors.Is(err, api.ErrLong) || n > most {
		return 0, fault{line, tooLarge}
	}
	return n, nil
}

// number: the number in a line's value.
func number(value string, line int) (int, error) {
	n, e := num.Size(value)
	if e != api.OK {
		return 0, fault{line, e}
	}
	return n, nil
}
