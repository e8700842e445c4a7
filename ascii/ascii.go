// Package ascii is layer 1: it classifies the characters of headers, and splits field values.
package ascii

import (
	"strings"

	"scullery/api"
)

const (
	blanks = " \t"
	marks  = "!#$%&'*+-.^_`|~"
)

// Token reports whether s is a token.
func Token(s string) bool {
	for i := range len(s) {
		if !inToken(s[i]) {
			return false
		}
	}
	return s != ""
}

func inToken(c byte) bool {
	return isLetter(c) || isDigit(c) || strings.IndexByte(marks, c) >= 0
}

func isLetter(c byte) bool { return isUpper(c) || 'a' <= c && c <= 'z' }

func isUpper(c byte) bool { return 'A' <= c && c <= 'Z' }

func isDigit(c byte) bool { return '0' <= c && c <= '9' }

// Text reports whether s may be the value of a field.
func Text(s string) bool {
	for i := range len(s) {
		if !inText(s[i]) {
			return false
		}
	}
	return Trim(s) == s
}

func inText(c byte) bool { return c == '\t' || c >= ' ' && c != 127 }

// Digits returns the number that the digits of s represent, at most api.Top, and whether s is one.
func Digits(s string) (int, bool) {
	n := 0
	for i := range len(s) {
		if !isDigit(s[i]) {
			return 0, false
		}
		// Limited at each digit, since a long text would overflow ahead of its end.
		n = min(10*n+int(s[i]-'0'), api.Top)
	}
	return n, s != ""
}

// Lower returns s with small letters in place of A to Z.
func Lower(s string) string {
	// By bytes, since the library's ToLower changes letters beyond ASCII, and bytes that are not UTF-8.
	b := []byte(s)
	for i, c := range b {
		if isUpper(c) {
			b[i] = c - 'A' + 'a'
		}
	}
	return string(b)
}

// Trim returns s without the blanks at its beginning and end.
func Trim(s string) string { return strings.TrimFunc(s, oneOf(blanks)) }

func oneOf(set string) func(rune) bool {
	return func(r rune) bool { return strings.ContainsRune(set, r) }
}

// Split returns the trimmed parts of s between the commas outside of quoted parts, without the empty ones.
func Split(s string) []string {
	var parts []string
	for s != "" {
		end := partEnd(s)
		if part := Trim(s[:end]); part != "" {
			parts = append(parts, part)
		}
		s = s[min(end+1, len(s)):]
	}
	return parts
}

// partEnd returns the place of the first comma of s outside of quoted parts, or the end of s.
func partEnd(s string) int {
	i := 0
	for i < len(s) && s[i] != ',' {
		if s[i] == '"' {
			i += quotedLength(s[i:])
		} else {
			i++
		}
	}
	return i
}

// quotedLength returns the length of the quoted part with which s begins.
func quotedLength(s string) int {
	backslashes := 0
	for i := 1; i < len(s); i++ {
		switch {
		case s[i] == '\\':
			backslashes++
		case s[i] == '"' && backslashes%2 == 0:
			return i + 1
		default:
			backslashes = 0
		}
	}
	return len(s)
}
