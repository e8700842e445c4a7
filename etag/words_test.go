package etag_test

import (
	"fmt"
	"regexp"
	"slices"
	"strings"
	"testing"

	"scullery/api"
	"scullery/etag"
)

// The forms of entity tags and lists, as the document says them. A byte that is no UTF-8 counts as a letter beyond ASCII.
const tagForm = `(W/)?"([!#-~\x{80}-\x{10ffff}]*)"`

var (
	tagText  = regexp.MustCompile(`^` + tagForm + `$`)
	starText = regexp.MustCompile(`^[ \t]*\*[ \t]*$`)
	listText = regexp.MustCompile(`^[ \t,]*` + tagForm + `(?:[ \t]*,[ \t,]*` + tagForm + `)*[ \t,]*$`)
	eachTag  = regexp.MustCompile(tagForm)
)

const many = 200000

func strong(text string) etag.Tag { return etag.Tag{Text: text} }

func weak(text string) etag.Tag { return etag.Tag{Weak: true, Text: text} }

// parseByForm is Parse, made of the form.
func parseByForm(s string) (etag.Tag, bool) {
	parts := tagText.FindStringSubmatch(s)
	if parts == nil {
		return etag.Tag{}, false
	}
	return etag.Tag{Weak: parts[1] != "", Text: parts[2]}, true
}

// listByForm is List, made of the forms.
func listByForm(s string) (tags []etag.Tag, all, is bool) {
	if starText.MatchString(s) {
		return nil, true, true
	}
	if !listText.MatchString(s) {
		return nil, false, false
	}
	for _, text := range eachTag.FindAllString(s, -1) {
		tag, _ := parseByForm(text)
		tags = append(tags, tag)
	}
	return tags, false, true
}

// textOf is the text of an entity tag by the words of the document.
func textOf(t etag.Tag) string {
	if t.Weak {
		return `W/"` + t.Text + `"`
	}
	return `"` + t.Text + `"`
}

// isRight reports whether a byte may be in a Text by the words of the document.
func isRight(c int) bool { return c == 33 || 35 <= c && c <= 126 || 128 <= c && c <= 255 }

func byteText(c int) string { return string([]byte{byte(c)}) }

// brief returns x for a message, cut off where it is long.
func brief(x any) string { return fmt.Sprintf("%.300s", fmt.Sprintf("%#v", x)) }

func checkParse(t *testing.T, s string, want etag.Tag) {
	if tag, e := etag.Parse(s); tag != want || e != api.OK {
		t.Helper()
		t.Errorf("Parse(%s) = %s, %d; not %s", brief(s), brief(tag), e, brief(want))
	}
}

func checkNoTag(t *testing.T, texts ...string) {
	for _, s := range texts {
		if tag, e := etag.Parse(s); tag != (etag.Tag{}) || e != api.ErrForm {
			t.Helper()
			t.Errorf("Parse(%s) = %s, %d; not ErrForm", brief(s), brief(tag), e)
		}
	}
}

// checkParseByForm holds Parse against parseByForm; it reports whether s is the text of a tag.
func checkParseByForm(t *testing.T, s string) bool {
	t.Helper()
	want, is := parseByForm(s)
	if is {
		checkParse(t, s, want)
	} else {
		checkNoTag(t, s)
	}
	return is
}

func checkPrint(t *testing.T, tag etag.Tag) {
	if s, e := etag.Print(tag); s != textOf(tag) || e != api.OK {
		t.Helper()
		t.Errorf("Print(%s) = %s, %d", brief(tag), brief(s), e)
	}
}

func checkNoPrint(t *testing.T, tag etag.Tag) {
	if s, e := etag.Print(tag); s != "" || e != api.ErrForm {
		t.Helper()
		t.Errorf("Print(%s) = %s, %d; not ErrForm", brief(tag), brief(s), e)
	}
}

func checkLike(t *testing.T, a, b etag.Tag, strongly, want bool) {
	if etag.Like(a, b, strongly) != want {
		t.Helper()
		t.Errorf("Like(%s, %s, %t) is not %t", brief(a), brief(b), strongly, want)
	}
}

func checkList(t *testing.T, s string, want ...etag.Tag) {
	if l, all, e := etag.List(s); !slices.Equal(l, want) || all || e != api.OK {
		t.Helper()
		t.Errorf("List(%s) = %s, %t, %d; not %s", brief(s), brief(l), all, e, brief(want))
	}
}

func checkStar(t *testing.T, s string) {
	if l, all, e := etag.List(s); len(l) > 0 || !all || e != api.OK {
		t.Helper()
		t.Errorf("List(%s) = %s, %t, %d; not the list of all", brief(s), brief(l), all, e)
	}
}

func checkNoList(t *testing.T, texts ...string) {
	for _, s := range texts {
		if l, all, e := etag.List(s); len(l) > 0 || all || e != api.ErrForm {
			t.Helper()
			t.Errorf("List(%s) = %s, %t, %d; not ErrForm", brief(s), brief(l), all, e)
		}
	}
}

// checkListByForm holds List against listByForm; it returns how many tags s has.
func checkListByForm(t *testing.T, s string) int {
	t.Helper()
	want, all, is := listByForm(s)
	switch {
	case all:
		checkStar(t, s)
	case is:
		checkList(t, s, want...)
	default:
		checkNoList(t, s)
	}
	return len(want)
}

// eachText calls f with all texts of at most that many pieces, the empty one among them.
func eachText(pieces []string, most int, f func(string)) {
	eachList(pieces, most, func(l []string) { f(strings.Join(l, "")) })
}

// eachList calls f with all lists of at most that many parts, the empty one among them.
func eachList[T any](parts []T, most int, f func([]T)) {
	var longer func(l []T)
	longer = func(l []T) {
		f(l)
		for _, part := range parts {
			if len(l) < most {
				longer(append(l[:len(l):len(l)], part))
			}
		}
	}
	longer(nil)
}

// eachChange calls f with s cut off at each place, without the byte there, and with each byte instead of it, ahead of it and at the end.
func eachChange(s string, f func(string)) {
	for i := range len(s) {
		f(s[:i])
		f(s[i:])
		f(s[:i] + s[i+1:])
		for c := range 256 {
			f(s[:i] + byteText(c) + s[i+1:])
			f(s[:i] + byteText(c) + s[i:])
		}
	}
	for c := range 256 {
		f(s + byteText(c))
	}
}
