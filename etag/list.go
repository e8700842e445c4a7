package etag

import (
	"strings"

	"scullery/api"
)

const (
	star       = "*"
	blanks     = " \t"
	comma      = ","
	separators = blanks + comma
)

// List returns the entity tags of the list that s is, or true if it is the list of all of them.
func List(s string) ([]Tag, bool, api.Errno) {
	if strings.Trim(s, blanks) == star {
		return nil, true, api.OK
	}
	tags, err := readTags(strings.TrimLeft(s, separators))
	if err != api.OK || len(tags) == 0 {
		return nil, false, api.ErrForm
	}
	return tags, false, api.OK
}

// readTags returns the entity tags of a list without anything ahead of the first.
func readTags(s string) ([]Tag, api.Errno) {
	var tags []Tag
	for s != "" {
		tag, behind, err := read(s)
		if err != api.OK || !endsTag(behind) {
			return nil, api.ErrForm
		}
		tags = append(tags, tag)
		s = strings.TrimLeft(behind, separators)
	}
	return tags, api.OK
}

// endsTag reports whether s may stand behind an entity tag of a list.
func endsTag(s string) bool {
	behind := strings.TrimLeft(s, blanks)
	return behind == "" || strings.HasPrefix(behind, comma)
}
