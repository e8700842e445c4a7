package modern_test

import (
	"fmt"
	"regexp"
	"strconv"
	"strings"
	"testing"

	"scullery/api"
	"scullery/legacy"
	"scullery/modern"
)

// The forms of a dictionary and of its parts, as the document says them.
const (
	keyForm    = `[a-z*][-a-z0-9_.*]*`
	valueForm  = `(?:-?[0-9]{1,15}|-?[0-9]{1,12}\.[0-9]{1,3}|"(?:[ !#-\[\]-~]|\\["\\])*"|[A-Za-z*][-!#$%&'*+.^_` + "`" + `|~0-9A-Za-z:/]*|:(?:[A-Za-z0-9+/]{4})*(?:[A-Za-z0-9+/]{2}[AEIMQUYcgkosw048]=|[A-Za-z0-9+/][AQgw]==)?:|\?[01])`
	paramsForm = `(?:; *` + keyForm + `(?:=` + valueForm + `)?)*`
	itemForm   = `(?:` + valueForm + paramsForm + `)`
	memberForm = `(?:` + itemForm + `|\( *(?:` + itemForm + `(?: +` + itemForm + `)* *)?\)` + paramsForm + `)`
	entryForm  = `(?:` + keyForm + `(?:=` + memberForm + `|` + paramsForm + `))`
)

var (
	dictText    = regexp.MustCompile(`^ *` + entryForm + `[ \t]*(?:,[ \t]*` + entryForm + `[ \t]*)*$`)
	entryText   = longest(entryForm)
	entryParts  = longest(`^(` + keyForm + `)(?:=(` + valueForm + `|\())?`)
	integerText = regexp.MustCompile(`^(?:-0+|[0-9]{1,15})$`)
)

// longest takes as much as each part may have.
func longest(form string) *regexp.Regexp {
	r := regexp.MustCompile(form)
	r.Longest()
	return r
}

// The directives of a dictionary, by what they set.
var (
	bools = map[string]func(*legacy.Rules) *bool{
		"no-store":         func(r *legacy.Rules) *bool { return &r.NoStore },
		"no-cache":         func(r *legacy.Rules) *bool { return &r.NoCache },
		"private":          func(r *legacy.Rules) *bool { return &r.Private },
		"public":           func(r *legacy.Rules) *bool { return &r.Public },
		"must-revalidate":  func(r *legacy.Rules) *bool { return &r.MustRevalidate },
		"proxy-revalidate": func(r *legacy.Rules) *bool { return &r.ProxyRevalidate },
		"immutable":        func(r *legacy.Rules) *bool { return &r.Immutable },
		"only-if-cached":   func(r *legacy.Rules) *bool { return &r.OnlyIfCached },
	}
	numbers = map[string]func(*legacy.Rules) *int{
		"max-age":        func(r *legacy.Rules) *int { return &r.MaxAge },
		"s-maxage":       func(r *legacy.Rules) *int { return &r.SMaxAge },
		"max-stale":      func(r *legacy.Rules) *int { return &r.MaxStale },
		"min-fresh":      func(r *legacy.Rules) *int { return &r.MinFresh },
		"stale-if-error": func(r *legacy.Rules) *int { return &r.StaleIfError },
	}
)

// none returns the rules that nothing sets, with some changes.
func none(changes ...func(*legacy.Rules)) legacy.Rules {
	r := legacy.Rules{MaxAge: -1, SMaxAge: -1, MaxStale: -1, MinFresh: -1, StaleIfError: -1}
	for _, change := range changes {
		change(&r)
	}
	return r
}

// set sets the bool of that name.
func set(name string) func(*legacy.Rules) {
	return func(r *legacy.Rules) { *bools[name](r) = true }
}

// to sets the number of that name to n.
func to(name string, n int) func(*legacy.Rules) {
	return func(r *legacy.Rules) { *numbers[name](r) = n }
}

// parseByForm is Parse, made of the forms.
func parseByForm(s string) (legacy.Rules, bool) {
	r := none()
	if !dictText.MatchString(s) {
		return r, false
	}
	// The value of each key, or a ( for an inner list. A later entry replaces an earlier one.
	values := map[string]string{}
	for _, entry := range entryText.FindAllString(s, -1) {
		parts := entryParts.FindStringSubmatch(entry)
		if parts[2] == "" {
			parts[2] = "?1"
		}
		values[parts[1]] = parts[2]
	}
	for name, rule := range bools {
		*rule(&r) = values[name] == "?1"
	}
	for name, rule := range numbers {
		if n, err := strconv.Atoi(values[name]); err == nil && integerText.MatchString(values[name]) {
			*rule(&r) = min(n, 2147483648)
		}
	}
	if values["max-stale"] == "?1" {
		r.MaxStale = 2147483648
	}
	return r, true
}

// chooseByWords is Choose, made of parseByForm.
func chooseByWords(l []api.Field) (legacy.Rules, int) {
	values := map[string][]string{}
	for _, f := range l {
		values[f.Name] = append(values[f.Name], f.Value)
	}
	if r, is := parseByForm(strings.Join(values["cdn-cache-control"], ", ")); is {
		return r, 2
	}
	if values["cache-control"] != nil {
		return legacy.Of(legacy.Parse(strings.Join(values["cache-control"], ", "))), 1
	}
	return none(), 0
}

// brief returns x for a message, cut off where it is long.
func brief(x any) string { return fmt.Sprintf("%.300s", fmt.Sprintf("%#v", x)) }

func checkParse(t *testing.T, s string, want legacy.Rules) {
	if r, is := modern.Parse(s); r != want || !is {
		t.Helper()
		t.Errorf("Parse(%s) = %+v, %t; not %+v", brief(s), r, is, want)
	}
}

func checkNotEffective(t *testing.T, texts ...string) {
	for _, s := range texts {
		if r, is := modern.Parse(s); r != none() || is {
			t.Helper()
			t.Errorf("Parse(%s) = %+v, %t", brief(s), r, is)
		}
	}
}

// checkParseByForm holds Parse against parseByForm; it reports whether s is effective, and sets a rule.
func checkParseByForm(t *testing.T, s string) bool {
	want, effective := parseByForm(s)
	if r, is := modern.Parse(s); r != want || is != effective {
		t.Helper()
		t.Errorf("Parse(%s) = %+v, %t; not %+v, %t", brief(s), r, is, want, effective)
	}
	return want != none()
}

func checkChoose(t *testing.T, want legacy.Rules, place int, l ...api.Field) {
	if r, at := modern.Choose(l); r != want || at != place {
		t.Helper()
		t.Errorf("Choose(%s) = %+v, %d; not %+v, %d", brief(l), r, at, want, place)
	}
}

// eachList calls f with all lists of at most that many parts, the empty one among them.
func eachList[T any](parts []T, most int, f func([]T)) {
	var longer func(l []T)
	longer = func(l []T) {
		f(l)
		for _, part := range parts {
			if len(l) < most {
				longer(append(l[:len(l):len(l)], part))
			}
		}
	}
	longer(nil)
}
