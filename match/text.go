package match

import (
	"strings"

	"larum/api"
	"larum/chars"
	"larum/jtok"
	"larum/label"
)

// What stands around a list as text, and within it.
const (
	opened    = "{"
	closed    = "}"
	comma     = ","
	quote     = `"`
	signBytes = "=!" // what signs begin with
)

// signs has by a kind what stands between a name and a value.
var signs = [...]string{Equal: "=", NotEqual: "!=", Like: "=~", NotLike: "!~"}

// text: matchers as a list's text.
func text(l []Matcher) string {
	parts := make([]string, len(l))
	for i, m := range l {
		// A list's values are valid, so there is no error.
		q, _ := jtok.Quote(m.Value)
		parts[i] = m.Name + signs[m.Kind] + q
	}
	return opened + strings.Join(parts, comma) + closed
}

// matchersOf: the matchers that a list's text names.
func matchersOf(s string) ([]Matcher, bool) {
	s, begun := strings.CutPrefix(s, opened)
	s, ended := strings.CutSuffix(s, closed)
	if !begun || !ended {
		return nil, false
	}
	var l []Matcher
	for s = chars.Trim(s); s != ""; {
		m, behind, ok := first(s)
		if !ok {
			return nil, false
		}
		l = append(l, m)
		s, ok = strings.CutPrefix(behind, comma)
		if !ok && behind != "" {
			return nil, false
		}
	}
	return l, true
}

// first: the matcher whose text s begins with, and what stands behind that.
// Blanks around both are left out.
func first(s string) (Matcher, string, bool) {
	end := strings.IndexAny(s, signBytes)
	if end < 0 {
		return Matcher{}, "", false
	}
	name := chars.Trim(s[:end])
	kind, s := signOf(s[end:])
	s = chars.Trim(s)
	// The quote is looked for here, as ahead of a token more blanks may stand
	// than around a sign.
	if !label.Name(name) || kind == 0 || !strings.HasPrefix(s, quote) {
		return Matcher{}, "", false
	}
	t, e := jtok.Next(s, 0)
	if e != api.OK {
		return Matcher{}, "", false
	}
	return Matcher{Name: name, Kind: kind, Value: t.Text}, chars.Trim(s[t.To:]), true
}

// signOf: the kind whose sign s begins with, and what stands behind that; 0,
// if there is none.
func signOf(s string) (int, string) {
	// From the last one on, as = is the beginning of another one.
	for kind := NotLike; kind >= Equal; kind-- {
		if behind, ok := strings.CutPrefix(s, signs[kind]); ok {
			return kind, behind
		}
	}
	return 0, ""
}
