package policy

import (
	"scullery/age"
	"scullery/api"
	"scullery/date"
	"scullery/head"
	"scullery/legacy"
	"scullery/modern"
)

// A guessed lifetime is a part of the time for which the response had not changed, but not above a day.
const (
	guessParts   = 10
	longestGuess = 86400
)

// Lifetime returns for how many seconds the response p, which came at got, is fresh.
func Lifetime(p api.Response, got int64) int {
	rules, place := modern.Choose(p.Fields)
	for _, d := range []directive{sMaxAge(), maxAge()} {
		if d.set(rules) {
			return d.seconds(rules)
		}
	}
	if place == modern.Targeted {
		return 0
	}
	made := age.Date(p.Fields, got)
	if text, is := head.Get(p.Fields, expiresField); is {
		return untilExpiry(text, made)
	}
	if !guessable(p.Status, rules) {
		return 0
	}
	return guess(p.Fields, made)
}

// untilExpiry returns the seconds from made to the date that text is; 0 if it is none.
func untilExpiry(text string, made int64) int {
	end, err := date.Parse(text)
	if err != api.OK {
		return 0
	}
	return age.Sum(end, -made)
}

// guessable reports whether a lifetime may be guessed of a response of that status with the rules r.
func guessable(status int, r legacy.Rules) bool { return cacheable(status) || public().set(r) }

// guess returns the lifetime that is guessed of a response with the fields l, made at that time; 0 without the date of its last change.
func guess(l []api.Field, made int64) int {
	// Without the field the text is empty, and so no date.
	text, _ := head.Get(l, modifiedField)
	modified, err := date.Parse(text)
	if err != api.OK {
		return 0
	}
	// Where it changed later the difference is below 0, and so the sum is 0.
	return min(age.Sum((made-modified)/guessParts), longestGuess)
}
