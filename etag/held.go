package etag

import (
	"slices"

	"scullery/api"
	"scullery/date"
	"scullery/head"
)

const (
	tagsField     = "if-none-match"
	sinceField    = "if-modified-since"
	tagField      = "etag"
	modifiedField = "last-modified"
)

// Held reports whether a request tells by its fields that the client holds the response with those fields already.
func Held(request, response []api.Field) bool {
	if list, is := head.Get(request, tagsField); is {
		return isListed(list, response)
	}
	if since, is := head.Get(request, sinceField); is {
		return isUnmodified(since, response)
	}
	return false
}

// isListed reports whether the tag of a response is in a list.
func isListed(list string, response []api.Field) bool {
	tags, all, err := List(list)
	if err != api.OK || all {
		// Together with an error it is not the list of all.
		return all
	}
	// Without the field the text is empty, and so no tag.
	text, _ := head.Get(response, tagField)
	own, err := Parse(text)
	return err == api.OK && slices.ContainsFunc(tags, func(t Tag) bool { return Like(t, own, false) })
}

// isUnmodified reports whether a response was last modified at a date or earlier.
func isUnmodified(since string, response []api.Field) bool {
	latest, err := date.Parse(since)
	if err != api.OK {
		return false
	}
	// Without the field the text is empty, and so no date.
	text, _ := head.Get(response, modifiedField)
	modified, err := date.Parse(text)
	return err == api.OK && modified <= latest
}
