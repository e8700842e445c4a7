package legacy

import (
	"strings"

	"scullery/ascii"
)

// Parse returns the directives among the parts of s.
func Parse(s string) []Directive {
	var l []Directive
	for _, part := range ascii.Split(s) {
		if d, is := directive(part); is {
			l = append(l, d)
		}
	}
	return l
}

// directive returns the directive that part is, and whether it is one.
func directive(part string) (Directive, bool) {
	// No token has a =, so the first one is the one behind the name.
	name, text, has := strings.Cut(part, "=")
	if !ascii.Token(name) {
		return Directive{}, false
	}
	d := Directive{Name: ascii.Lower(name), Has: has}
	if !has {
		return d, true
	}
	value, is := valueOf(text)
	if !is {
		return Directive{}, false
	}
	d.Value = value
	return d, true
}

// valueOf returns the value that a token or a quoted string tells, and whether text is one of them.
func valueOf(text string) (string, bool) {
	if ascii.Token(text) {
		return text, true
	}
	rest, is := strings.CutPrefix(text, `"`)
	if !is {
		return "", false
	}
	var value strings.Builder
	escaped := false
	for i := range len(rest) {
		c := rest[i]
		switch {
		case c == '\\' && !escaped:
			escaped = true
			continue
		case c == '"' && !escaped:
			return value.String(), i == len(rest)-1
		}
		value.WriteByte(c)
		escaped = false
	}
	return "", false
}
