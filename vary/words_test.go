package vary_test

import (
	"fmt"
	"maps"
	"regexp"
	"slices"
	"strings"
	"testing"

	"scullery/api"
	"scullery/vary"
)

const many = 100000

// The forms of a token, and of what is between two commas, as the document says them.
var (
	tokenText = regexp.MustCompile("^[A-Za-z0-9!#$%&'*+.^_`|~-]+$")
	partText  = regexp.MustCompile(`(?s)(?:[^,"]|"(?:[^"\\]|\\.)*(?:"|\\?\z))+`)
)

// told is what a request tells as a name.
type told struct {
	value string
	is    bool
}

var absent = told{}

func of(value string) told { return told{value, true} }

func field(name, value string) api.Field { return api.Field{Name: name, Value: value} }

// lines returns a field of that name for each value.
func lines(name string, values ...string) []api.Field {
	var l []api.Field
	for _, value := range values {
		l = append(l, field(name, value))
	}
	return l
}

// fields returns the fields of names and values by turns.
func fields(texts ...string) []api.Field {
	var l []api.Field
	for i := 0; i < len(texts); i += 2 {
		l = append(l, field(texts[i], texts[i+1]))
	}
	return l
}

// others have names that are neither vary nor a, b or c, but values that would tell something.
func others(value string) []api.Field {
	var l []api.Field
	for _, name := range []string{"", " ", "*", "-", ":", "Vary", "VARY", "vary ", " vary", "var", "varyx", "x-vary", "vary,", "A", "B", "C", "a ", " a", "aa", "ab", "b-", "a,b", "accept", "cache-control"} {
		l = append(l, field(name, value))
	}
	return l
}

// toldByWords is Value, made of the forms.
func toldByWords(l []api.Field, name string) told {
	var values []string
	for _, f := range l {
		if f.Name == name {
			values = append(values, f.Value)
		}
	}
	if values == nil {
		return absent
	}
	var parts []string
	for _, part := range partText.FindAllString(strings.Join(values, ", "), -1) {
		if part = strings.Trim(part, " \t"); part != "" {
			parts = append(parts, part)
		}
	}
	return of(strings.Join(parts, ","))
}

// namesByWords is Names, made of the forms.
func namesByWords(l []api.Field) ([]string, bool) {
	names := map[string]bool{}
	for _, part := range partText.FindAllString(toldByWords(l, "vary").value, -1) {
		if part == "*" || !tokenText.MatchString(part) {
			return nil, true
		}
		names[strings.ToLower(part)] = true
	}
	return slices.Sorted(maps.Keys(names)), false
}

// variantByWords is Variant, made of the forms.
func variantByWords(names []string, request []api.Field) string {
	text := ""
	for _, name := range names {
		if x := toldByWords(request, name); x.is {
			text += fmt.Sprintf("%s:%d:%s;", name, len(x.value), x.value)
		} else {
			text += name + ":-;"
		}
	}
	return text
}

// brief returns x for a message, cut off where it is long.
func brief(x any) string { return fmt.Sprintf("%.300s", fmt.Sprintf("%#v", x)) }

func checkNames(t *testing.T, l []api.Field, want ...string) {
	if names, all := vary.Names(l); !slices.Equal(names, want) || all {
		t.Helper()
		t.Errorf("Names(%s) = %s, %t; not %s", brief(l), brief(names), all, brief(want))
	}
}

func checkAll(t *testing.T, l []api.Field) {
	if names, all := vary.Names(l); len(names) > 0 || !all {
		t.Helper()
		t.Errorf("Names(%s) = %s, %t; not all", brief(l), brief(names), all)
	}
}

// checkNamesByWords holds Names against namesByWords; it returns how many names there are, or -1 for all.
func checkNamesByWords(t *testing.T, l []api.Field) int {
	t.Helper()
	want, all := namesByWords(l)
	if all {
		checkAll(t, l)
		return -1
	}
	checkNames(t, l, want...)
	return len(want)
}

func checkValue(t *testing.T, want told, l []api.Field, name string) {
	if value, is := vary.Value(l, name); value != want.value || is != want.is {
		t.Helper()
		t.Errorf("Value(%s, %q) = %s, %t; not %s", brief(l), name, brief(value), is, brief(want))
	}
}

func checkVariant(t *testing.T, want string, names []string, request []api.Field) {
	if text := vary.Variant(names, request); text != want {
		t.Helper()
		t.Errorf("Variant(%s, %s) = %s; not %s", brief(names), brief(request), brief(text), brief(want))
	}
}

// eachText calls f with all texts of at most that many pieces, the empty one among them.
func eachText(pieces []string, most int, f func(string)) {
	eachList(pieces, most, func(l []string) { f(strings.Join(l, "")) })
}

// eachList calls f with all lists of at most that many parts, the empty one among them.
func eachList[T any](parts []T, most int, f func([]T)) {
	var longer func(l []T)
	longer = func(l []T) {
		f(l)
		for _, part := range parts {
			if len(l) < most {
				longer(append(l[:len(l):len(l)], part))
			}
		}
	}
	longer(nil)
}

// eachOrder calls f with l in each order.
func eachOrder(l []string, f func([]string)) {
	var longer func(first, rest []string)
	longer = func(first, rest []string) {
		if len(rest) == 0 {
			f(first)
		}
		for i, s := range rest {
			longer(append(first[:len(first):len(first)], s), slices.Delete(slices.Clone(rest), i, i+1))
		}
	}
	longer(nil, l)
}
