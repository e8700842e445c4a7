package message

import (
	"slices"

	"scullery/api"
	"scullery/ascii"
	"scullery/head"
)

const (
	host             = "host"
	contentLength    = "content-length"
	transferEncoding = "transfer-encoding"
	chunkedCoding    = "chunked"
)

// The lengths of bodies that are no numbers of bytes.
const (
	chunked = -1 - iota
	unspecified
)

// lengthOf returns the length of the body that the fields determine, and whether they may.
func lengthOf(l []api.Field) (int, bool) {
	codings, numbers := head.All(l, transferEncoding), head.All(l, contentLength)
	switch {
	case len(codings)+len(numbers) > 1:
		return 0, false
	case len(codings) == 1:
		return chunked, ascii.Lower(codings[0]) == chunkedCoding
	case len(numbers) == 1:
		return ascii.Digits(numbers[0])
	}
	return unspecified, true
}

// unframed returns the fields that do not determine the length of a body.
func unframed(l []api.Field) []api.Field { return head.Without(l, contentLength, transferEncoding) }

func isFramed(l []api.Field) bool { return slices.ContainsFunc(l, determinesLength) }

func determinesLength(f api.Field) bool { return f.Name == contentLength || f.Name == transferEncoding }

func hasOneHost(l []api.Field) bool { return len(head.All(l, host)) == 1 }
