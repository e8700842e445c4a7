package chunk

import (
	"strconv"
	"strings"

	"scullery/api"
	"scullery/ascii"
)

const (
	mostDigits = 8
	// behindDigits are the characters that may stand behind the digits of a line.
	behindDigits = " \t;"
)

// readLine returns the size that the line of a chunk at the beginning of s contains, and the length of the line with its end.
func readLine(s string) (int, int, api.Errno) {
	line, err := firstLine(s)
	if err != api.OK {
		return 0, 0, err
	}
	size, is := sizeOf(line)
	if !is {
		return 0, 0, api.ErrForm
	}
	return size, len(line) + len(lineEnd), api.OK
}

// firstLine returns the first line of s, without its end.
func firstLine(s string) (string, api.Errno) {
	before, _, ended := strings.Cut(s, "\n")
	line, marked := strings.CutSuffix(before, "\r")
	switch {
	case !ended && len(s) > api.MostLine+len(lineEnd):
		return "", api.ErrMany
	case !ended:
		return "", api.ErrShort
	case !marked:
		return "", api.ErrForm
	case len(line) > api.MostLine:
		return "", api.ErrMany
	}
	return line, api.OK
}

// sizeOf returns the size that the line of a chunk contains, and whether it is one.
func sizeOf(line string) (int, bool) {
	digits, rest := line, ""
	if end := strings.IndexAny(line, behindDigits); end >= 0 {
		digits, rest = line[:end], line[end:]
	}
	// The library's signless numbers of a given base have neither a sign nor a prefix, and at least one digit.
	size, err := strconv.ParseUint(digits, base, 64)
	if len(digits) > mostDigits || err != nil || !isExtension(rest) {
		return 0, false
	}
	return int(size), true
}

// isExtension reports whether rest may stand behind the digits of a line.
func isExtension(rest string) bool {
	text, found := strings.CutPrefix(ascii.Trim(rest), ";")
	return rest == "" || found && ascii.Text(ascii.Trim(text))
}
