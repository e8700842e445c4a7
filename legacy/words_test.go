package legacy_test

import (
	"fmt"
	"math"
	"regexp"
	"slices"
	"strconv"
	"strings"
	"testing"

	"scullery/api"
	"scullery/legacy"
)

// The forms of directives and of the parts of a text, as the document says them. A part of a quoted part that does not end has what is left of the text.
var (
	directiveForm = regexp.MustCompile("(?s)^([!#$%&'*+.^_`|~0-9A-Za-z-]+)(=(?:([!#$%&'*+.^_`|~0-9A-Za-z-]+)|\"((?:[^\"\\\\]|\\\\.)*)\"))?$")
	partForm      = regexp.MustCompile(`(?s)(?:[^",]|"(?:[^"\\]|\\.)*(?:"|\\?$))+`)
	escapeForm    = regexp.MustCompile(`(?s)\\(.)`)
)

// The directives that are recognized, as the document lists them.
var (
	boolNames   = []string{"no-store", "no-cache", "private", "public", "must-revalidate", "proxy-revalidate", "immutable", "only-if-cached"}
	numberNames = []string{"max-age", "s-maxage", "max-stale", "min-fresh", "stale-if-error"}
)

// brief returns x for a message, cut off where it is long.
func brief(x any) string { return fmt.Sprintf("%.300s", fmt.Sprintf("%#v", x)) }

// texts returns all texts of at most that many pieces, the empty one among them.
func texts(pieces []string, most int) []string {
	all := []string{""}
	last := all
	for range most {
		var longer []string
		for _, s := range last {
			for _, piece := range pieces {
				longer = append(longer, s+piece)
			}
		}
		all = append(all, longer...)
		last = longer
	}
	return all
}

func everyByte() []string {
	var all []string
	for c := range 256 {
		all = append(all, string([]byte{byte(c)}))
	}
	return all
}

// changed returns s with each byte in each place, instead of the one there or ahead of it, and without the one there.
func changed(s string) []string {
	var all []string
	for i := range len(s) {
		all = append(all, s[:i]+s[i+1:])
		for _, c := range everyByte() {
			all = append(all, s[:i]+c+s[i+1:], s[:i]+c+s[i:])
		}
	}
	for _, c := range everyByte() {
		all = append(all, s+c)
	}
	return all
}

// bare is a directive without a =.
func bare(name string) legacy.Directive { return legacy.Directive{Name: name} }

// with is a directive with a value.
func with(name, value string) legacy.Directive {
	return legacy.Directive{Name: name, Value: value, Has: true}
}

// lower is ASCII's lower case, other than the library's, which knows more letters.
func lower(s string) string {
	b := []byte(s)
	for i := range b {
		if 'A' <= b[i] && b[i] <= 'Z' {
			b[i] += 32
		}
	}
	return string(b)
}

// parseByForm is Parse, made of the forms.
func parseByForm(s string) []legacy.Directive {
	var l []legacy.Directive
	for _, part := range partForm.FindAllString(s, -1) {
		words := directiveForm.FindStringSubmatch(strings.Trim(part, " \t"))
		if words != nil {
			value := words[3] + escapeForm.ReplaceAllString(words[4], "$1")
			l = append(l, legacy.Directive{Name: lower(words[1]), Value: value, Has: words[2] != ""})
		}
	}
	return l
}

// numberByWords is the number that a directive of that name sets.
func numberByWords(d legacy.Directive) int {
	if d.Name == "max-stale" && !d.Has {
		return 2147483648
	}
	if d.Value == "" || strings.Trim(d.Value, "0123456789") != "" {
		return 0
	}
	n, err := strconv.ParseInt(d.Value, 10, 64)
	if err != nil {
		n = math.MaxInt64
	}
	return int(min(n, 2147483648))
}

// ofByWords is Of, from the last directive to the first, so that each replaces those behind it.
func ofByWords(l []legacy.Directive) legacy.Rules {
	r := legacy.Rules{MaxAge: -1, SMaxAge: -1, MaxStale: -1, MinFresh: -1, StaleIfError: -1}
	for _, d := range slices.Backward(l) {
		if is := boolOf(&r, d.Name); is != nil {
			*is = true
		}
		if n := numberOf(&r, d.Name); n != nil {
			*n = numberByWords(d)
		}
	}
	return r
}

// boolOf is the bool that a directive of that name sets; nil if it sets none.
func boolOf(r *legacy.Rules, name string) *bool {
	return map[string]*bool{
		"no-store": &r.NoStore, "no-cache": &r.NoCache, "private": &r.Private, "public": &r.Public, "must-revalidate": &r.MustRevalidate,
		"proxy-revalidate": &r.ProxyRevalidate, "immutable": &r.Immutable, "only-if-cached": &r.OnlyIfCached,
	}[name]
}

// numberOf is the number that a directive of that name sets; nil if it sets none.
func numberOf(r *legacy.Rules, name string) *int {
	return map[string]*int{"max-age": &r.MaxAge, "s-maxage": &r.SMaxAge, "max-stale": &r.MaxStale, "min-fresh": &r.MinFresh, "stale-if-error": &r.StaleIfError}[name]
}

func checkParse(t *testing.T, s string, want ...legacy.Directive) {
	if got := legacy.Parse(s); !slices.Equal(got, want) {
		t.Helper()
		t.Errorf("Parse(%s) = %s, not %s", brief(s), brief(got), brief(want))
	}
}

// checkParseByForm holds Parse against parseByForm; it returns the directives of s.
func checkParseByForm(t *testing.T, s string) []legacy.Directive {
	want := parseByForm(s)
	checkParse(t, s, want...)
	return want
}

func checkOf(t *testing.T, want legacy.Rules, l ...legacy.Directive) {
	if got := legacy.Of(l); got != want {
		t.Helper()
		t.Errorf("Of(%s) = %+v, not %+v", brief(l), got, want)
	}
}

func checkRead(t *testing.T, want legacy.Rules, l ...api.Field) {
	if got := legacy.Read(l); got != want {
		t.Helper()
		t.Errorf("Read(%s) = %+v, not %+v", brief(l), got, want)
	}
}

// none is None, as the document says it.
func none() legacy.Rules { return ofByWords(nil) }

// changedRules is none, with one change.
func changedRules(change func(*legacy.Rules)) legacy.Rules {
	r := none()
	change(&r)
	return r
}
