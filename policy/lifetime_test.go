package policy_test

import (
	"math"
	"slices"
	"strconv"
	"strings"
	"testing"

	"scullery/age"
	"scullery/api"
	"scullery/date"
)

// printed is the date with these seconds.
func printed(t *testing.T, seconds int64) string {
	text, e := date.Print(seconds)
	if e != api.OK {
		t.Helper()
		t.Fatalf("%d: no date", seconds)
	}
	return text
}

// P14.2: by s-maxage and max-age.

func TestLifetimesByRules(t *testing.T) {
	later := fields(dated(noonText), expires(lastText), modified(zeroText))
	for value, want := range map[string]int{
		"max-age=5": 5, "max-age=0": 0, "max-age=1": 1, "max-age=2147483647": api.Top - 1, "max-age=2147483648": api.Top, "max-age=2147483649": api.Top, "max-age=99999999999999999999": api.Top, "MAX-AGE=7": 7, `max-age="8"`: 8, "max-age=x": 0, "max-age": 0, `max-age=""`: 0, "max-age=5, max-age=9": 5,
		"s-maxage=5": 5, "s-maxage=0": 0, "s-maxage=2147483649": api.Top, "s-maxage=x": 0, "s-maxage": 0, "s-maxage=5, s-maxage=9": 5,
		// Both.
		"max-age=5, s-maxage=7": 7, "s-maxage=7, max-age=5": 7, "max-age=7, s-maxage=5": 5, "s-maxage=0, max-age=5": 0, "max-age=0, s-maxage=5": 5, "s-maxage=x, max-age=5": 0, "s-maxage, max-age=5": 0, "s-maxage=, max-age=5": 5, "s-maxage=5, max-age=": 5,
		// With others.
		"max-age=5, no-store": 5, "no-cache, max-age=5": 5, "private, max-age=5": 5, "public, max-age=5": 5, "immutable, max-age=5, stale-if-error=9": 5, "must-revalidate, s-maxage=5": 5, "max-stale=9, max-age=5, min-fresh=8": 5,
	} {
		for _, status := range []int{200, 302, 100, 206, 304, 0, -1, 999, 1000, math.MinInt, math.MaxInt} {
			for _, got := range []int64{math.MinInt64, -1, 0, 5, noon, end, math.MaxInt64} {
				checkLifetime(t, want, answer(status, control(value)), got)
				checkLifetime(t, want, answer(status, slices.Concat(later, fields(control(value)))...), got)
				checkLifetime(t, want, answer(status, control(value), expires("x")), got)
			}
		}
		checkLifetime(t, want, answer(200, control("x"), control(value)), 5)
		checkLifetime(t, want, answer(200, slices.Concat(others("max-age=9, s-maxage=9"), fields(control(value)), others(noonText))...), 5)
		// Fields that are not effective have no say.
		for _, other := range []string{"", "Max-Age=9", "max-age=9,", "max-age=", "="} {
			checkLifetime(t, want, answer(200, targeted(other), control(value), expires(lastText)), 5)
		}
	}
}

func TestLifetimesByTargetedRules(t *testing.T) {
	for value, want := range map[string]int{
		"max-age=5": 5, "max-age=0": 0, "max-age=2147483647": api.Top - 1, "max-age=2147483648": api.Top, "max-age=2147483649": api.Top, "max-age=999999999999999": api.Top, "s-maxage=5": 5, "s-maxage=0": 0, "max-age=5, s-maxage=7": 7, "s-maxage=7, max-age=5": 7, "s-maxage=0, max-age=5": 0, "max-age=5, max-age=9": 9, "s-maxage=x, max-age=5": 5, "s-maxage=-1, max-age=5": 5, "s-maxage=5, max-age=x": 5, "public, max-age=5": 5, "no-store, max-age=5": 5, "max-age=5;a": 5,
		// Without them.
		"x": 0, "public": 0, "public, x=5": 0, "max-age": 0, "max-age=x": 0, "max-age=-5": 0, "max-age=5.5": 0, `max-age="5"`: 0, "max-age=(5)": 0, "max-age=?1": 0, "max-age=5, max-age=x": 0, "max-stale=9, min-fresh=9, stale-if-error=9": 0, "immutable, must-revalidate": 0,
	} {
		for _, status := range []int{200, 302, 999} {
			for _, l := range [][]api.Field{
				nil, fields(control("max-age=9")), fields(control("s-maxage=9, public")), fields(expires(lastText)), fields(expires("x")), fields(modified(zeroText), dated(noonText)), fields(control("public, max-age=8"), dated(noonText), expires(lastText), modified(zeroText)), others("max-age=9"),
			} {
				checkLifetime(t, want, answer(status, slices.Concat(l, fields(targeted(value)))...), noon)
				checkLifetime(t, want, answer(status, slices.Concat(fields(targeted(value)), l)...), -5)
			}
		}
	}
}

// P14.2: by expires.

func TestLifetimesByExpires(t *testing.T) {
	for _, c := range []struct {
		expires, date string
		want          int
	}{
		// Later than the date, the same and earlier, in each form.
		{afterText, noonText, 1}, {noonText, noonText, 0}, {aheadText, noonText, 0}, {noonText, aheadText, 1}, {afterText, aheadText, 2},
		{"Sunday, 06-Nov-94 12:00:01 GMT", noonText, 1}, {"Sunday, 06-Nov-94 12:00:00 GMT", noonText, 0}, {"Sunday, 06-Nov-94 11:59:59 GMT", noonText, 0},
		{"Sun Nov  6 12:00:01 1994", noonText, 1}, {"Sun Nov  6 12:00:00 1994", noonText, 0}, {"Sun Nov  6 11:59:59 1994", noonText, 0},
		{afterText, "Sunday, 06-Nov-94 11:58:21 GMT", 100}, {afterText, "Sun Nov  6 11:58:21 1994", 100}, {"Sun, 06 Nov 1994 11:58:21 GMT", afterText, 0},
		{"Mon, 07 Nov 1994 12:00:00 GMT", noonText, 86400}, {"Mon, 07 Nov 1994 12:00:01 GMT", noonText, 86401}, {"Mon, 06 Nov 1995 12:00:00 GMT", noonText, 31536000},
		{noonText, zeroText, noon}, {zeroText, zeroText, 0}, {zeroText, lastText, 0},
		// Up to and above the limit.
		{"Tue, 19 Jan 2038 03:14:07 GMT", zeroText, api.Top - 1}, {"Tue, 19 Jan 2038 03:14:08 GMT", zeroText, api.Top}, {"Tue, 19 Jan 2038 03:14:09 GMT", zeroText, api.Top}, {lastText, zeroText, api.Top}, {lastText, noonText, api.Top},
		// No date, or an empty one.
		{"0", noonText, 0}, {"", noonText, 0}, {"-1", noonText, 0}, {"784123300", noonText, 0}, {afterText + " ", noonText, 0}, {"Sat, 06 Nov 1994 12:00:01 GMT", noonText, 0},
	} {
		for _, status := range []int{200, 302, 206, 999} {
			for _, got := range []int64{math.MinInt64, -1, 0, noon, math.MaxInt64} {
				checkLifetime(t, c.want, answer(status, expires(c.expires), dated(c.date)), got)
			}
			checkLifetime(t, c.want, answer(status, dated(c.date), modified(zeroText), expires(c.expires), control("public")), 5)
			checkLifetime(t, c.want, answer(status, slices.Concat(others(lastText), fields(expires(c.expires), dated(c.date)))...), 5)
			checkLifetime(t, c.want, answer(status, expires(c.expires), dated(c.date), control("must-revalidate, no-cache, max-age=")), 5)
			// Told twice, it is no date.
			checkLifetime(t, 0, answer(status, expires(c.expires), dated(c.date), expires(c.expires)), 5)
		}
	}
	// Two fields are one text, which may be a date.
	checkLifetime(t, 7, answer(302, expires("Thu"), dated(zeroText), expires("01 Jan 1970 00:00:07 GMT")), 5)
}

func TestNoDateBesideExpires(t *testing.T) {
	for _, c := range []struct {
		expires string
		got     int64
		want    int
	}{
		{noonText, noon - 1, 1}, {noonText, noon, 0}, {noonText, noon + 1, 0}, {noonText, 0, noon}, {noonText, -1, noon}, {noonText, math.MinInt64, noon}, {noonText, end, 0}, {noonText, math.MaxInt64, 0}, {noonText, 1 << 50, 0},
		{zeroText, 0, 0}, {zeroText, -5, 0}, {zeroText, math.MinInt64, 0}, {zeroText, 1, 0}, {"Thu Jan  1 00:00:10 1970", -5, 10}, {"Thu Jan  1 00:00:10 1970", 4, 6},
		{lastText, lastDate, 0}, {lastText, lastDate - 1, 1}, {lastText, lastDate - api.Top + 1, api.Top - 1}, {lastText, lastDate - api.Top, api.Top}, {lastText, lastDate - api.Top - 1, api.Top}, {lastText, 0, api.Top}, {lastText, math.MinInt64, api.Top}, {lastText, end - 1, 0}, {lastText, end, 0}, {lastText, end + 1, 0}, {lastText, math.MaxInt64, 0},
		{"x", 0, 0}, {"", math.MinInt64, 0}, {"0", -5, 0}, {"x", math.MaxInt64, 0},
	} {
		checkLifetime(t, c.want, answer(302, expires(c.expires)), c.got)
		checkLifetime(t, c.want, answer(200, expires(c.expires), modified(zeroText)), c.got)
		for _, text := range noDates() {
			checkLifetime(t, c.want, answer(200, dated(text), expires(c.expires)), c.got)
		}
		checkLifetime(t, c.want, answer(200, dated(zeroText), expires(c.expires), dated(zeroText)), c.got)
		checkLifetime(t, c.want, answer(200, slices.Concat(others(aheadText), fields(expires(c.expires)))...), c.got)
	}
}

// P14.2: by last-modified.

func TestLifetimesByLastModified(t *testing.T) {
	for passed, want := range map[int64]int{
		0: 0, 1: 0, 9: 0, 10: 1, 11: 1, 19: 1, 20: 2, 99: 9, 100: 10, 101: 10, 3600: 360, 3599: 359,
		863989: 86398, 863990: 86399, 863999: 86399, 864000: 86400, 864001: 86400, 864009: 86400, 864010: 86400, 8640000: 86400, 10 * api.Top: 86400, 10*api.Top + 10: 86400, 100 * api.Top: 86400,
		// Changed later.
		-1: 0, -9: 0, -10: 0, -11: 0, -100: 0, -864000: 0, -noon: 0, -10 * api.Top: 0,
	} {
		for _, change := range []int64{0, 5, 10, noon, 2 * noon, lastDate} {
			if change+passed < 0 {
				continue
			}
			text := modified(printed(t, change))
			for _, status := range byDefault() {
				checkLifetime(t, want, answer(status, text), change+passed)
				checkLifetime(t, want, answer(status, text, dated("x")), change+passed)
				checkLifetime(t, want, answer(status, text, control("x")), change+passed)
				checkLifetime(t, want, answer(status, text, control("public, must-revalidate")), change+passed)
				checkLifetime(t, want, answer(status, text, targeted("=")), change+passed)
				if change+passed <= lastDate {
					checkLifetime(t, want, answer(status, dated(printed(t, change+passed)), text), 5)
				}
			}
			for _, status := range []int{-1, 0, 100, 199, 201, 202, 205, 206, 299, 302, 304, 307, 403, 406, 500, 502, 999, 1000, 200 + 1<<32} {
				checkLifetime(t, 0, answer(status, text), change+passed)
				checkLifetime(t, 0, answer(status, text, control("immutable, must-revalidate, no-cache, private, stale-if-error=5")), change+passed)
				checkLifetime(t, want, answer(status, text, control("public")), change+passed)
				checkLifetime(t, want, answer(status, control("Public=0, max-age=, private"), text), change+passed)
				checkLifetime(t, 0, answer(status, text, targeted("public"), control("public")), change+passed)
			}
		}
	}
}

func TestLastModifiedInEachForm(t *testing.T) {
	for _, text := range []string{"Sun, 06 Nov 1994 11:58:21 GMT", "Sunday, 06-Nov-94 11:58:21 GMT", "Sun Nov  6 11:58:21 1994"} {
		for _, date := range []string{noonText, "Sunday, 06-Nov-94 12:00:00 GMT", "Sun Nov  6 12:00:00 1994"} {
			checkLifetime(t, 9, answer(200, modified(text), dated(date)), 5)
			checkLifetime(t, 0, answer(200, modified(date), dated(text)), 5)
			checkLifetime(t, 9, answer(200, slices.Concat(others(zeroText), fields(modified(text), dated(date)))...), 5)
		}
		checkLifetime(t, 10, answer(410, modified(text), dated(afterText)), 5)
		// Told twice, it is no date.
		checkLifetime(t, 0, answer(200, modified(text), dated(noonText), modified(text)), 5)
		checkLifetime(t, 0, answer(200, modified(text), modified("")), noon)
		checkLifetime(t, 9, answer(200, modified(text), dated(noonText), dated(noonText)), noon)
		checkLifetime(t, 0, answer(200, modified(text), dated(noonText), expires("")), noon)
	}
	for _, text := range noDates() {
		checkLifetime(t, 0, answer(200, modified(text), dated(noonText)), 5)
		checkLifetime(t, 0, answer(200, modified(text)), end)
		checkLifetime(t, 0, answer(200, control("public"), modified(text)), end)
	}
	// Two fields are one text, which may be a date.
	checkLifetime(t, 100, answer(200, modified("Thu"), modified("01 Jan 1970 00:00:07 GMT")), 1007)
}

func TestGotAtTheEndsOfTime(t *testing.T) {
	for got, want := range map[int64]int{
		math.MinInt64: 0, -end: 0, -864000: 0, -10: 0, -1: 0, 0: 0, 9: 0, 10: 1, end - 1: day, end: day, end + 1: day, math.MaxInt64: day,
	} {
		checkLifetime(t, want, answer(200, modified(zeroText)), got)
	}
	for got, want := range map[int64]int{
		lastDate - 1: 0, lastDate + 9: 0, lastDate + 10: 1, lastDate + 864000 - 1: day - 1, lastDate + 864000: day, end: day, end + 1: day, math.MaxInt64: day, math.MinInt64: 0, 0: 0, -1: 0,
	} {
		checkLifetime(t, want, answer(200, modified(lastText)), got)
	}
}

func TestNoLifetime(t *testing.T) {
	for _, got := range edges() {
		for _, status := range []int{-1, 0, 200, 206, 302, 304, 404, 999, 1000} {
			checkLifetime(t, 0, answer(status), got)
			checkLifetime(t, 0, api.Response{Status: status, Fields: []api.Field{}, Body: []byte("max-age=5")}, got)
			checkLifetime(t, 0, answer(status, dated(noonText)), got)
			checkLifetime(t, 0, answer(status, control("")), got)
			checkLifetime(t, 0, answer(status, control("public, immutable, stale-if-error=5, max-stale=5, min-fresh=5")), got)
			checkLifetime(t, 0, answer(status, control("maxage=5, max-age=, s-maxage=, max-age = 5, =5")), got)
			checkLifetime(t, 0, answer(status, others("max-age=5, s-maxage=5")...), got)
			checkLifetime(t, 0, answer(status, others(lastText)...), got)
			checkLifetime(t, 0, answer(status, others(zeroText)...), got)
		}
	}
}

// P14.2, by the words.

func TestLifetimeByWords(t *testing.T) {
	fresh := 0
	pool := fields(
		control("x"), control("public"), control("max-age=5"), control("s-maxage=0"), control("Public, max-age=2147483647"), targeted("x"), targeted("max-age=7, public"), targeted("="), dated(noonText), dated("x"),
		expires(noonText), expires("Sun Nov  6 12:00:01 1994"), expires("x"), modified("Sunday, 06-Nov-94 11:58:21 GMT"), modified(zeroText), modified(""), field("x", noonText),
	)
	eachList(pool, 3, func(l []api.Field) {
		for _, status := range []int{200, 206, 302} {
			for _, got := range []int64{math.MinInt64, 0, 98, noon - 1, noon + 1, math.MaxInt64} {
				if checkLifetimeByWords(t, answer(status, l...), got) > 0 {
					fresh++
				}
			}
		}
	})
	if fresh < 20000 {
		t.Error("too few of them are fresh:", fresh)
	}
}

func TestLifetimeOfDatesByWords(t *testing.T) {
	texts := slices.Concat(dates(), []string{"x"})
	for _, first := range texts {
		for _, second := range texts {
			for _, status := range []int{301, 302} {
				checkLifetimeByWords(t, answer(status, expires(first), dated(second)), 5)
				checkLifetimeByWords(t, answer(status, modified(first), dated(second)), 5)
				checkLifetimeByWords(t, answer(status, control("public"), modified(first), dated(second)), 5)
				checkLifetimeByWords(t, answer(status, expires(first), modified(second)), noon)
			}
		}
		for _, got := range edges() {
			for _, status := range []int{501, 502} {
				checkLifetimeByWords(t, answer(status, expires(first)), got)
				checkLifetimeByWords(t, answer(status, modified(first)), got)
				checkLifetimeByWords(t, answer(status, control("Public"), modified(first)), got)
			}
		}
	}
	for got := int64(-30); got < 300; got++ {
		for _, text := range []string{zeroText, "Thu, 01 Jan 1970 00:00:10 GMT"} {
			checkLifetimeByWords(t, answer(200, modified(text)), got)
			checkLifetimeByWords(t, answer(200, expires(text)), got)
		}
	}
}

// TestLifetimeHasTheDateOfAge holds the dates of responses against age.Date.
func TestLifetimeHasTheDateOfAge(t *testing.T) {
	for _, text := range slices.Concat(dates(), noDates()) {
		for _, got := range edges() {
			l := fields(dated(text))
			made := age.Date(l, got)
			checkLifetime(t, age.Sum(lastDate, -made), answer(200, append(l, expires(lastText))...), got)
			checkLifetime(t, int(min(made/10, day)), answer(200, append(l, modified(zeroText))...), got)
		}
	}
}

func TestLifetimeOfLongFields(t *testing.T) {
	long := strings.Repeat("x, ", many)
	checkLifetime(t, 0, answer(200, control(long), expires(long), modified(long), dated(long)), 5)
	checkLifetime(t, 7, answer(200, control(long+"max-age=7"), expires(long)), 5)
	checkLifetime(t, 0, answer(200, targeted(long+"x"), control("max-age=7")), 5)
	checkLifetime(t, 7, answer(200, targeted(long), control("max-age=7")), 5)
	checkLifetime(t, 8, answer(200, targeted(long+"s-maxage=8"), control("max-age=7")), 5)
	checkLifetime(t, api.Top, answer(200, control("max-age="+strings.Repeat("9", many))), 5)
	checkLifetime(t, 3, answer(200, control("max-age="+strings.Repeat("0", many)+"3")), 5)
	checkLifetime(t, 0, answer(200, expires(lastText+strings.Repeat(" ", many))), 5)
	l := slices.Repeat(fields(control("x"), modified("x")), many/10)
	checkLifetime(t, 0, answer(200, l...), end)
	checkLifetime(t, 9, answer(200, append(l, control("max-age=9"))...), end)
	for n := range 100 {
		checkLifetime(t, n, answer(200, control("max-age="+strconv.Itoa(n))), 5)
	}
}
