package target

import (
	"slices"
	"strings"
)

const (
	slash  = "/"
	stay   = "."
	ascend = ".."
)

// Dots returns path with its dot segments removed.
func Dots(path string) string {
	rest, rooted := strings.CutPrefix(path, slash)
	if !rooted {
		return path
	}
	return slash + strings.Join(remaining(strings.Split(rest, slash)), slash)
}

// remaining returns the segments that are kept.
func remaining(segments []string) []string {
	first := slices.IndexFunc(segments, isDots)
	if first < 0 {
		return segments
	}
	// Those ahead are kept where they stand, and their room ends with them: nothing is written over the segments that are still to be read.
	kept := segments[:first:first]
	for _, segment := range segments[first:] {
		switch segment {
		case stay:
		case ascend:
			kept = kept[:max(len(kept)-1, 0)]
		default:
			kept = append(kept, segment)
		}
	}
	if isDots(segments[len(segments)-1]) {
		kept = append(kept, "")
	}
	return kept
}

func isDots(segment string) bool { return segment == stay || segment == ascend }
