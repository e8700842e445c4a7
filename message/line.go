package message

import (
	"strings"

	"scullery/api"
	"scullery/ascii"
)

const (
	leastStatus  = 100
	mostStatus   = 599
	statusDigits = 3
)

// cutLine returns the first line of s, without its end, and what is behind it.
func cutLine(s string) (string, string, api.Errno) {
	before, rest, ended := strings.Cut(s, "\n")
	line, marked := strings.CutSuffix(before, "\r")
	switch {
	case !ended && len(s) > api.MostLine+len(lineEnd):
		return "", "", api.ErrMany
	case !ended:
		return "", "", api.ErrShort
	case !marked:
		return "", "", api.ErrForm
	case len(line) > api.MostLine:
		return "", "", api.ErrMany
	}
	return line, rest, api.OK
}

// requestLine returns the method and the target that the first line of a request contains, and whether it is one.
func requestLine(line string) (string, string, bool) {
	method, rest, _ := strings.Cut(line, " ")
	target, versioned := strings.CutSuffix(rest, " "+version)
	return method, target, versioned && ascii.Token(method) && isTarget(target)
}

func isTarget(s string) bool {
	for i := range len(s) {
		if s[i] < '!' || s[i] > '~' {
			return false
		}
	}
	return s != ""
}

// statusLine returns the status that the first line of a response contains, and whether it is one.
func statusLine(line string) (int, bool) {
	rest, versioned := strings.CutPrefix(line, version+" ")
	digits, text, spaced := strings.Cut(rest, " ")
	// What has no digits is the number 0, which is no status either.
	status, _ := ascii.Digits(digits)
	return status, versioned && spaced && len(digits) == statusDigits && isStatus(status) && ascii.Text(text)
}

func isStatus(n int) bool { return leastStatus <= n && n <= mostStatus }
