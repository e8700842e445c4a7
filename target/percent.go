package target

import (
	"strconv"
	"strings"

	"scullery/api"
)

const (
	percent    = "%"
	codeDigits = 2
	base       = 16
	bits       = 8
)

// Percent returns s with each byte that is told by % in the one way to tell it.
func Percent(s string) (string, api.Errno) {
	if !isVisible(s) {
		return "", api.ErrForm
	}
	plain, rest, found := strings.Cut(s, percent)
	var text strings.Builder
	text.WriteString(plain)
	for found {
		sign, is := signOf(rest)
		if !is {
			return "", api.ErrForm
		}
		plain, rest, found = strings.Cut(rest[codeDigits:], percent)
		text.WriteString(sign + plain)
	}
	return text.String(), api.OK
}

// isVisible reports whether s has only bytes that may stand in a target.
func isVisible(s string) bool {
	for i := range len(s) {
		if s[i] < '!' || s[i] > '~' || s[i] == '#' {
			return false
		}
	}
	return true
}

// signOf returns the one way to tell the byte of the two digits with which s begins, and whether it begins with two.
func signOf(s string) (string, bool) {
	if len(s) < codeDigits {
		return "", false
	}
	digits := s[:codeDigits]
	// The library's signless numbers of a given base have neither a sign nor a prefix.
	c, err := strconv.ParseUint(digits, base, bits)
	switch {
	case err != nil:
		return "", false
	case isUnreserved(byte(c)):
		return string(rune(c)), true
	}
	return percent + strings.ToUpper(digits), true
}

func isUnreserved(c byte) bool { return inName(c) || c == '_' || c == '~' }
