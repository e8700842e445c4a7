package message

import (
	"scullery/api"
	"scullery/chunk"
	"scullery/head"
)

// reader is what is left of a text, and the first error met in it, after which nothing is read any more.
type reader struct {
	rest string
	err  api.Errno
}

// require makes it an error of form that something is not as it has to be.
func (r *reader) require(is bool) {
	if r.err == api.OK && !is {
		r.err = api.ErrForm
	}
}

// line reads the first line, and returns it without its end.
func (r *reader) line() string {
	line, rest, err := cutLine(r.rest)
	r.rest, r.err = rest, err
	return line
}

// fields reads the fields, with the empty line at their end.
func (r *reader) fields() []api.Field {
	if r.err != api.OK {
		return nil
	}
	l, n, err := head.Parse(r.rest)
	r.rest, r.err = r.rest[n:], err
	return l
}

// body reads a body that is chunked, or has that length.
func (r *reader) body(length int) string {
	if r.err != api.OK {
		return ""
	}
	body, n, err := bodyOf(r.rest, length)
	r.rest, r.err = r.rest[n:], err
	return body
}

// bodyOf returns the body with which s begins, and how many bytes of s it takes.
func bodyOf(s string, length int) (string, int, api.Errno) {
	switch {
	case length == chunked:
		return chunk.Decode(s)
	case length > api.MostBody:
		return "", 0, api.ErrMany
	case length > len(s):
		return "", 0, api.ErrShort
	}
	return s[:length], length, api.OK
}
