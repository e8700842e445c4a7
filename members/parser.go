package members

import (
	"strings"

	"scullery/api"
	"scullery/item"
)

const blanks = " \t"

// The functions that read a part of a text return what is behind that part.

// List returns the members of the list that s is.
func List(s string) ([]Member, api.Errno) { return separated(s, readMember) }

// Dict returns the entries of the dictionary that s is.
func Dict(s string) ([]Entry, api.Errno) {
	entries, err := separated(s, readEntry)
	if err != api.OK {
		return nil, err
	}
	return oneOfEachKey(entries), api.OK
}

// separated returns the parts of s between commas, each of which read takes from the beginning of what is left.
func separated[T any](s string, read func(string) (T, string, api.Errno)) ([]T, api.Errno) {
	// Tabs are no part of what is skipped ahead of the first.
	rest := strings.TrimLeft(s, " ")
	if rest == "" {
		return nil, api.OK
	}
	var parts []T
	for {
		part, behind, err := read(rest)
		if err != api.OK {
			return nil, err
		}
		parts = append(parts, part)
		behind = strings.TrimLeft(behind, blanks)
		if behind == "" {
			return parts, api.OK
		}
		next, comma := strings.CutPrefix(behind, ",")
		if !comma {
			return nil, api.ErrForm
		}
		rest = strings.TrimLeft(next, blanks)
	}
}

// oneOfEachKey returns for each key its last entry, at the place of its first.
func oneOfEachKey(entries []Entry) []Entry {
	var kept []Entry
	// By key, since looking through all for each would take too long for many.
	places := map[string]int{}
	for _, e := range entries {
		if place, again := places[e.Key]; again {
			kept[place] = e
			continue
		}
		places[e.Key] = len(kept)
		kept = append(kept, e)
	}
	return kept
}

func readMember(s string) (Member, string, api.Errno) {
	if inside, inner := strings.CutPrefix(s, "("); inner {
		return readInner(inside)
	}
	x, n, err := item.Read(s)
	if err != api.OK {
		return Member{}, "", err
	}
	return Member{Item: x}, s[n:], api.OK
}

// readInner reads an inner list from behind its ( on.
func readInner(s string) (Member, string, api.Errno) {
	items, rest, err := readItems(s)
	if err != api.OK {
		return Member{}, "", err
	}
	params, n, err := item.Params(rest)
	if err != api.OK {
		return Member{}, "", err
	}
	return Member{Inner: true, Items: items, Params: params}, rest[n:], api.OK
}

// readItems reads the items of an inner list and its ).
func readItems(s string) ([]item.Item, string, api.Errno) {
	var items []item.Item
	rest := strings.TrimLeft(s, " ")
	for !strings.HasPrefix(rest, ")") {
		x, n, err := item.Read(rest)
		switch {
		case err != api.OK:
			return nil, "", err
		case !endsItem(rest[n:]):
			return nil, "", api.ErrForm
		}
		items = append(items, x)
		rest = strings.TrimLeft(rest[n:], " ")
	}
	return items, rest[1:], api.OK
}

// endsItem reports whether s may stand behind an item of an inner list.
func endsItem(s string) bool {
	return strings.HasPrefix(s, " ") || strings.HasPrefix(s, ")")
}

func readEntry(s string) (Entry, string, api.Errno) {
	key, n, err := item.ReadKey(s)
	if err != api.OK {
		return Entry{}, "", err
	}
	value, rest, err := readValue(s[n:])
	if err != api.OK {
		return Entry{}, "", err
	}
	return Entry{Key: key, Value: value}, rest, api.OK
}

// readValue reads the value of an entry from behind its key on.
func readValue(s string) (Member, string, api.Errno) {
	if member, spoken := strings.CutPrefix(s, "="); spoken {
		return readMember(member)
	}
	params, n, err := item.Params(s)
	if err != api.OK {
		return Member{}, "", err
	}
	unspoken := api.Bare{Kind: api.Boolean, N: 1}
	return Member{Item: item.Item{Value: unspoken, Params: params}}, s[n:], api.OK
}
