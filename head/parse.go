package head

import (
	"strings"

	"scullery/api"
	"scullery/ascii"
)

// Parse returns the fields with which s begins, and their length in bytes with the empty line at their end.
func Parse(s string) ([]api.Field, int, api.Errno) {
	var l []api.Field
	length := 0
	for {
		line, err := firstLine(s[length:])
		if err != api.OK {
			return nil, 0, err
		}
		length += len(line) + len(lineEnd)
		switch {
		case line == "":
			return l, length, api.OK
		case len(l) == api.MostFields:
			return nil, 0, api.ErrMany
		}
		f, err := fieldOf(line)
		if err != api.OK {
			return nil, 0, err
		}
		l = append(l, f)
	}
}

// firstLine returns the first line of s, without its end.
func firstLine(s string) (string, api.Errno) {
	before, _, ended := strings.Cut(s, "\n")
	if !ended {
		return "", endless(s)
	}
	line, ended := strings.CutSuffix(before, "\r")
	switch {
	case !ended:
		return "", api.ErrForm
	case len(line) > api.MostLine:
		return "", api.ErrMany
	}
	return line, api.OK
}

// endless returns the error of a line that has no end.
func endless(s string) api.Errno {
	if len(s) > api.MostLine+len(lineEnd) {
		return api.ErrMany
	}
	return api.ErrShort
}

// fieldOf returns the field that a line is.
func fieldOf(line string) (api.Field, api.Errno) {
	name, value, found := strings.Cut(line, ":")
	value = ascii.Trim(value)
	if !found || !ascii.Token(name) || !ascii.Text(value) {
		return api.Field{}, api.ErrForm
	}
	return api.Field{Name: ascii.Lower(name), Value: value}, api.OK
}
