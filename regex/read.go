package regex

import (
	"strings"

	"larum/api"
	"larum/num"
	"larum/utf"
)

const (
	runeBytes = 4 // of a rune at most
	digits    = 2 // of a number at most
)

// reader goes over the runes of an expression. What it reads is nothing where
// it says false, and then it reads no more.
type reader struct {
	s  string
	at int
}

// expression reads parts with | between. Brackets in it may be so deep as
// there is room.
func (r *reader) expression(room int) (Node, bool) {
	var parts []Node
	for {
		part, ok := r.part(room)
		if !ok {
			return Node{}, false
		}
		parts = append(parts, part)
		if !r.take('|') {
			return joined(Either, parts), true
		}
	}
}

// part reads pieces, as far as they go.
func (r *reader) part(room int) (Node, bool) {
	var pieces []Node
	for r.at < len(r.s) && r.s[r.at] != '|' && r.s[r.at] != ')' {
		atom, ok := r.atom(room)
		if !ok {
			return Node{}, false
		}
		piece, ok := r.signed(atom)
		if !ok {
			return Node{}, false
		}
		pieces = append(pieces, piece)
	}
	return joined(Concat, pieces), true
}

// joined: a node of some, of one that one itself.
func joined(kind int, kids []Node) Node {
	switch len(kids) {
	case 0:
		return Node{Kind: Empty}
	case 1:
		return kids[0]
	}
	return Node{Kind: kind, Kids: kids}
}

// signed reads the sign behind an atom, if there is one: the piece of both.
func (r *reader) signed(atom Node) (Node, bool) {
	piece, ok := Node{Kind: Repeat}, true
	switch {
	case r.take('{'):
		piece.Least, piece.Most, ok = r.times()
	case r.take('?'):
		piece.Most = 1
	case r.take('+'):
		piece.Least = 1
		fallthrough
	case r.take('*'):
		piece.Most = endless
	default:
		return atom, true
	}
	piece.Kids = []Node{atom}
	return piece, ok
}

// times reads what stands behind a {, and the }: how often at least, and at
// most.
func (r *reader) times() (least, most int, ok bool) {
	within, _, ended := strings.Cut(r.s[r.at:], "}")
	if !ended {
		return 0, 0, false
	}
	r.at += len(within) + len("}")
	first, second, two := strings.Cut(within, ",")
	least, ok = number(first)
	switch {
	case !ok:
		return 0, 0, false
	case !two:
		return least, least, true
	case second == "":
		return least, endless, true
	}
	most, ok = number(second)
	return least, most, ok && least <= most
}

// number: how often a text of digits says.
func number(s string) (int, bool) {
	n, e := num.Size(s)
	return n, e == api.OK && len(s) <= digits && n <= api.MaxRepeat
}

// atom reads a rune, some of which one may stand, or an expression in
// brackets.
func (r *reader) atom(room int) (Node, bool) {
	c, ok := r.next()
	if !ok {
		return Node{}, false
	}
	switch c {
	case '(':
		return r.brackets(room)
	case '[':
		return r.set()
	case '\\':
		l, ok := r.escaped()
		return Node{Kind: Rune, Spans: l}, ok
	case '.':
		return Node{Kind: Rune, Not: true}, true
	case '|', '*', '+', '?', ')', ']', '{', '}':
		return Node{}, false
	}
	return Node{Kind: Rune, Spans: single(c)}, true
}

// brackets reads the expression behind a (, and the ).
func (r *reader) brackets(room int) (Node, bool) {
	if room == 0 {
		return Node{}, false
	}
	n, ok := r.expression(room - 1)
	return n, ok && r.take(')')
}

// set reads what stands behind a [, and the ].
func (r *reader) set() (Node, bool) {
	n := Node{Kind: Rune, Not: r.take('^')}
	for !r.take(']') {
		l, ok := r.member()
		if !ok {
			return Node{}, false
		}
		n.Spans = append(n.Spans, l...)
	}
	return n, len(n.Spans) > 0
}

// member reads one thing between [ and ].
func (r *reader) member() ([]Span, bool) {
	if r.take('\\') {
		return r.escaped()
	}
	lo, ok := r.plain()
	if !ok {
		return nil, false
	}
	if !r.take('-') {
		return single(lo), true
	}
	hi, ok := r.plain()
	return []Span{{lo, hi}}, ok && lo <= hi
}

// plain reads a rune that stands for itself between [ and ].
func (r *reader) plain() (rune, bool) {
	c, ok := r.next()
	return c, ok && c != '[' && c != ']' && c != '\\' && c != '^' && c != '-'
}

// escaped reads what stands behind a \.
func (r *reader) escaped() ([]Span, bool) {
	c, ok := r.next()
	switch {
	case !ok:
		return nil, false
	case c == 'd':
		return []Span{{'0', '9'}}, true
	case c == 'w':
		return []Span{{'a', 'z'}, {'A', 'Z'}, {'0', '9'}, {'_', '_'}}, true
	case c == 's':
		return []Span{{'\t', '\t'}, {'\n', '\n'}, {'\r', '\r'}, {' ', ' '}}, true
	case isMark(c):
		return single(c), true
	}
	return nil, false
}

// isMark: may c stand behind a \ for itself?
func isMark(c rune) bool {
	return '!' <= c && c <= '~' && !In(c, false, []Span{{'a', 'z'}, {'A', 'Z'}, {'0', '9'}})
}

func single(c rune) []Span { return []Span{{c, c}} }

// take goes over the byte c, if it stands there.
func (r *reader) take(c byte) bool {
	if r.at == len(r.s) || r.s[r.at] != c {
		return false
	}
	r.at++
	return true
}

// next reads a rune, if a valid one stands there.
func (r *reader) next() (rune, bool) {
	// No more than one rune's bytes, so that s is not copied as a whole.
	c, size, e := utf.Next([]byte(r.s[r.at:min(r.at+runeBytes, len(r.s))]))
	r.at += size
	return c, e == api.OK
}
