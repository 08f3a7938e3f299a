// Package chars is layer 1: bytes of protocols. See shared/doc/01-chars.md.
package chars

import "strings"

// marks are a token's bytes that are neither letters nor digits.
const marks = "!#$%&'*+-.^_`|~"

// Token: is c a letter, a digit or one of the marks of a token?
func Token(c byte) bool {
	switch {
	case Letter(c):
		fallthrough
	case Digit(c):
		fallthrough
	case mark(c):
		return true
	}
	return false
}

// Digit: is c one of 0 to 9?
func Digit(c byte) bool { return '0' <= c && c <= '9' }

// Letter: is c one of a to z, A to Z?
func Letter(c byte) bool { return 'a' <= c && c <= 'z' || great(c) }

// Visible: is c a byte of ASCII that is neither a blank nor a control?
func Visible(c byte) bool { return 0x21 <= c && c <= 0x7E }

// Space: is c a blank, that is a space or a tab?
func Space(c byte) bool {
	switch c {
	case ' ':
		fallthrough
	case '\t':
		return true
	}
	return false
}

// All: are all bytes of s such? Without a question there is no answer but
// false, even where s has no bytes.
func All(s string, is func(c byte) bool) bool {
	if is == nil {
		return false
	}
	// By places, as a range over a text would go by runes.
	for i := range len(s) {
		if !is(s[i]) {
			return false
		}
	}
	return true
}

// Lower: s with small letters for great ones; bytes beyond ASCII stay.
func Lower(s string) string {
	b := []byte(s)
	for i, c := range b {
		if great(c) {
			b[i] = c - 'A' + 'a'
		}
	}
	return string(b)
}

// Same: are a and b the same, but for great letters?
func Same(a, b string) bool {
	// Lower keeps the length: where these differ, nothing need be copied.
	return len(a) == len(b) && Lower(a) == Lower(b)
}

// Trim: s without the blanks around it.
func Trim(s string) string {
	from, to := 0, len(s)
	for from < to && Space(s[from]) {
		from++
	}
	for from < to && Space(s[to-1]) {
		to--
	}
	return s[from:to]
}

// Fields: the parts of s between the bytes sep, trimmed, but for empty ones.
func Fields(s string, sep byte) []string {
	var parts []string
	for {
		// By the byte alone: sep as a text would be two bytes from 80 on.
		end := strings.IndexByte(s, sep)
		if end < 0 {
			return appendPart(parts, s)
		}
		parts = appendPart(parts, s[:end])
		s = s[end+1:]
	}
}

func appendPart(parts []string, part string) []string {
	if part = Trim(part); part != "" {
		parts = append(parts, part)
	}
	return parts
}

func great(c byte) bool { return 'A' <= c && c <= 'Z' }

func mark(c byte) bool { return strings.IndexByte(marks, c) >= 0 }
