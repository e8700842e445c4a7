package target_test

import (
	"encoding/hex"
	"fmt"
	"regexp"
	"slices"
	"strconv"
	"strings"
	"testing"

	"scullery/api"
	"scullery/target"
)

// The forms of hosts, of targets and of URIs, as the document says them.
var (
	hostForm    = regexp.MustCompile(`^([A-Za-z0-9.-]+)(:[0-9]{0,5})?$`)
	percentForm = regexp.MustCompile(`^([!"$&-~]|%[0-9A-Fa-f]{2})*$`)
	signForm    = regexp.MustCompile(`%..`)
	plainForm   = regexp.MustCompile(`^[A-Za-z0-9._~-]$`)
	uriForm     = regexp.MustCompile(`^[Hh][Tt][Tt][Pp]://([^/?]*)((?s).*)$`)
	targetForm  = regexp.MustCompile(`^(/[^?]*)?((?s)\?.*)?$`)
)

// brief returns s for a message, cut off where it is long.
func brief(s string) string { return fmt.Sprintf("%.300s", strconv.Quote(s)) }

// texts returns all texts of at most that many pieces, the empty one among them.
func texts(pieces []string, most int) []string {
	all := []string{""}
	last := all
	for range most {
		var longer []string
		for _, s := range last {
			for _, piece := range pieces {
				longer = append(longer, s+piece)
			}
		}
		all = append(all, longer...)
		last = longer
	}
	return all
}

func everyByte() []string {
	var all []string
	for c := range 256 {
		all = append(all, string([]byte{byte(c)}))
	}
	return all
}

// changed returns s with each byte in each place, instead of the one there or ahead of it, and without the one there.
func changed(s string) []string {
	var all []string
	for i := range len(s) {
		all = append(all, s[:i]+s[i+1:])
		for _, c := range everyByte() {
			all = append(all, s[:i]+c+s[i+1:], s[:i]+c+s[i:])
		}
	}
	for _, c := range everyByte() {
		all = append(all, s+c)
	}
	return all
}

// hostByForm is Host, made of hostForm.
func hostByForm(s string) (string, api.Errno) {
	parts := hostForm.FindStringSubmatch(s)
	switch {
	case parts == nil:
		return "", api.ErrForm
	case parts[2] == ":" || parts[2] == ":80":
		return strings.ToLower(parts[1]), api.OK
	}
	return strings.ToLower(parts[1]) + parts[2], api.OK
}

// percentByForm is Percent, made of percentForm.
func percentByForm(s string) (string, api.Errno) {
	if !percentForm.MatchString(s) {
		return "", api.ErrForm
	}
	return signForm.ReplaceAllStringFunc(s, func(sign string) string {
		c, _ := hex.DecodeString(sign[1:])
		if plainForm.Match(c) {
			return string(c)
		}
		return fmt.Sprintf("%%%02X", c)
	}), api.OK
}

// dotsByWords is Dots from the end to the beginning: a segment .. drops the next one ahead that is neither a dot segment nor dropped already.
func dotsByWords(path string) string {
	if path == "" || path[0] != '/' {
		return path
	}
	segments := strings.Split(path, "/")[1:]
	var kept []string
	if last := segments[len(segments)-1]; last == "." || last == ".." {
		kept = []string{""}
	}
	drops := 0
	for _, segment := range slices.Backward(segments) {
		switch {
		case segment == "..":
			drops++
		case segment == ".":
		case drops > 0:
			drops--
		default:
			kept = append(kept, segment)
		}
	}
	text := ""
	for _, segment := range slices.Backward(kept) {
		text += "/" + segment
	}
	if text == "" {
		return "/"
	}
	return text
}

// normalByForm is Normal, made of the forms.
func normalByForm(host, s string) (string, api.Errno) {
	if parts := uriForm.FindStringSubmatch(s); parts != nil {
		host, s = parts[1], parts[2]
	}
	name, err := hostByForm(host)
	if err != api.OK {
		return "", err
	}
	if !targetForm.MatchString(s) {
		return "", api.ErrForm
	}
	text, err := percentByForm(s)
	if err != api.OK {
		return "", err
	}
	parts := targetForm.FindStringSubmatch(text)
	if parts[1] == "" {
		parts[1] = "/"
	}
	return "http://" + name + dotsByWords(parts[1]) + parts[2], api.OK
}

func checkHost(t *testing.T, s, want string) {
	if got, e := target.Host(s); got != want || e != api.OK {
		t.Helper()
		t.Errorf("Host(%s) = %s, %d; not %s", brief(s), brief(got), e, brief(want))
	}
}

func checkNoHost(t *testing.T, list ...string) {
	for _, s := range list {
		if got, e := target.Host(s); got != "" || e != api.ErrForm {
			t.Helper()
			t.Errorf("Host(%s) = %s, %d; not ErrForm", brief(s), brief(got), e)
		}
	}
}

func checkPercent(t *testing.T, s, want string) {
	if got, e := target.Percent(s); got != want || e != api.OK {
		t.Helper()
		t.Errorf("Percent(%s) = %s, %d; not %s", brief(s), brief(got), e, brief(want))
	}
}

func checkNoPercent(t *testing.T, list ...string) {
	for _, s := range list {
		if got, e := target.Percent(s); got != "" || e != api.ErrForm {
			t.Helper()
			t.Errorf("Percent(%s) = %s, %d; not ErrForm", brief(s), brief(got), e)
		}
	}
}

func checkDots(t *testing.T, path, want string) {
	if got := target.Dots(path); got != want {
		t.Helper()
		t.Errorf("Dots(%s) = %s, not %s", brief(path), brief(got), brief(want))
	}
}

func checkNormal(t *testing.T, host, s, want string) {
	if got, e := target.Normal(host, s); got != want || e != api.OK {
		t.Helper()
		t.Errorf("Normal(%s, %s) = %s, %d; not %s", brief(host), brief(s), brief(got), e, brief(want))
	}
}

func checkNotNormal(t *testing.T, host string, list ...string) {
	for _, s := range list {
		if got, e := target.Normal(host, s); got != "" || e != api.ErrForm {
			t.Helper()
			t.Errorf("Normal(%s, %s) = %s, %d; not ErrForm", brief(host), brief(s), brief(got), e)
		}
	}
}

// checkHostByForm holds Host against hostByForm, and what is a host against itself (P9.4); it reports whether s is a host.
func checkHostByForm(t *testing.T, s string) bool {
	want, err := hostByForm(s)
	if err != api.OK {
		checkNoHost(t, s)
		return false
	}
	checkHost(t, s, want)
	checkHost(t, want, want)
	return true
}

// checkPercentByForm holds Percent against percentByForm, and what it answers against itself.
func checkPercentByForm(t *testing.T, s string) bool {
	want, err := percentByForm(s)
	if err != api.OK {
		checkNoPercent(t, s)
		return false
	}
	checkPercent(t, s, want)
	checkPercent(t, want, want)
	return true
}

// checkDotsByWords holds Dots against dotsByWords, and what it answers against itself, which has no dot segments (P9.4).
func checkDotsByWords(t *testing.T, path string) {
	want := dotsByWords(path)
	checkDots(t, path, want)
	checkDots(t, want, want)
	if hasDots(target.Dots(path)) {
		t.Helper()
		t.Errorf("Dots(%s) = %s has dot segments", brief(path), brief(want))
	}
}

// hasDots reports whether a path that begins with / has a dot segment.
func hasDots(path string) bool {
	return strings.HasPrefix(path, "/") && (strings.Contains(path+"/", "/./") || strings.Contains(path+"/", "/../"))
}

// checkNormalByForm holds Normal against normalByForm, and what it answers against itself, at each host (P9.4).
func checkNormalByForm(t *testing.T, host, s string) bool {
	want, err := normalByForm(host, s)
	if err != api.OK {
		checkNotNormal(t, host, s)
		return false
	}
	checkNormal(t, host, s, want)
	for _, other := range []string{host, "", "Other:80", "wrong host"} {
		checkNormal(t, other, want, want)
	}
	path, _, _ := strings.Cut(strings.TrimPrefix(want, "http://"), "?")
	if path = path[strings.IndexByte(path, '/'):]; hasDots(path) {
		t.Helper()
		t.Errorf("Normal(%s, %s) = %s has dot segments", brief(host), brief(s), brief(want))
	}
	return true
}
