package age_test

import (
	"fmt"
	"math"
	"math/big"
	"regexp"
	"slices"
	"strings"
	"testing"

	"scullery/age"
	"scullery/api"
	"scullery/date"
)

const (
	end  = 1 << 40
	many = 200000
)

// The seconds of the dates that these tests have. All other texts of theirs are no dates.
const (
	noon      = 784123200 // Sun, 06 Nov 1994 12:00:00 GMT
	lastDate  = 253402300799
	noonText  = "Sun, 06 Nov 1994 12:00:00 GMT"
	aheadText = "Sun, 06 Nov 1994 11:59:59 GMT"
	afterText = "Sun, 06 Nov 1994 12:00:01 GMT"
)

func secondsOf(text string) (int64, bool) {
	seconds, is := map[string]int64{
		"Thu, 01 Jan 1970 00:00:00 GMT": 0, "Thursday, 01-Jan-70 00:00:00 GMT": 0, "Thu Jan  1 00:00:00 1970": 0,
		"Thu, 01 Jan 1970 00:00:10 GMT": 10, "Thursday, 01-Jan-70 00:00:10 GMT": 10, "Thu Jan  1 00:00:10 1970": 10,
		aheadText: noon - 1, "Sunday, 06-Nov-94 11:59:59 GMT": noon - 1, "Sun Nov  6 11:59:59 1994": noon - 1,
		noonText: noon, "Sunday, 06-Nov-94 12:00:00 GMT": noon, "Sun Nov  6 12:00:00 1994": noon,
		afterText: noon + 1, "Sunday, 06-Nov-94 12:00:01 GMT": noon + 1, "Sun Nov  6 12:00:01 1994": noon + 1,
		"Fri, 31 Dec 9999 23:59:59 GMT": lastDate, "Fri Dec 31 23:59:59 9999": lastDate,
	}[text]
	return seconds, is
}

func dates() []string {
	return []string{
		"Thu, 01 Jan 1970 00:00:00 GMT", "Thursday, 01-Jan-70 00:00:00 GMT", "Thu Jan  1 00:00:00 1970",
		"Thu, 01 Jan 1970 00:00:10 GMT", "Thursday, 01-Jan-70 00:00:10 GMT", "Thu Jan  1 00:00:10 1970",
		aheadText, "Sunday, 06-Nov-94 11:59:59 GMT", "Sun Nov  6 11:59:59 1994",
		noonText, "Sunday, 06-Nov-94 12:00:00 GMT", "Sun Nov  6 12:00:00 1994",
		afterText, "Sunday, 06-Nov-94 12:00:01 GMT", "Sun Nov  6 12:00:01 1994",
		"Fri, 31 Dec 9999 23:59:59 GMT", "Fri Dec 31 23:59:59 9999",
	}
}

func noDates() []string {
	return []string{
		"", " ", "0", "784123200", "-1", "x", "Sun", "GMT", noonText + " ", " " + noonText, noonText + ", " + noonText, noonText + ", ", "Mon, 06 Nov 1994 12:00:00 GMT", "sun, 06 Nov 1994 12:00:00 GMT",
		"Sun, 6 Nov 1994 12:00:00 GMT", "Sun, 06 Nov 1994 12:00:00", "Sun, 06 Nov 1994 12:00:00 UTC", "Sun, 06 Nov 1994 12:00:60 GMT", "Sun, 06 Nov 1994 24:00:00 GMT", "Sun, 06 Nov 94 12:00:00 GMT", "Sunday, 06 Nov 1994 12:00:00 GMT", "Sun, 06-Nov-94 12:00:00 GMT", "Sun Nov 06 12:00:00 1994",
		"Wed, 31 Dec 1969 23:59:59 GMT", "Sat, 01 Jan 10000 00:00:00 GMT", "1994-11-06T12:00:00Z",
	}
}

func TestTheDatesOfTheseTests(t *testing.T) {
	for _, text := range dates() {
		want, _ := secondsOf(text)
		if seconds, e := date.Parse(text); seconds != want || e != api.OK {
			t.Errorf("%s: %d, %d; not %d", text, seconds, e, want)
		}
	}
	for _, text := range noDates() {
		if _, e := date.Parse(text); e == api.OK {
			t.Errorf("%s: a date", text)
		}
	}
}

// edges are numbers at which the words of the document change, and those beside them.
func edges() []int64 {
	l := []int64{math.MinInt64, math.MinInt64 + 1, math.MaxInt64 - 1, math.MaxInt64}
	for _, n := range []int64{0, 10, math.MaxInt32, api.Top, math.MaxUint32, noon, lastDate, end, 2 * end, 1 << 62} {
		for _, sign := range []int64{-1, 1} {
			l = append(l, sign*n-1, sign*n, sign*n+1)
		}
	}
	slices.Sort(l)
	return slices.Compact(l)
}

func field(name, value string) api.Field { return api.Field{Name: name, Value: value} }

func told(value string) api.Field { return field("age", value) }

func dated(value string) api.Field { return field("date", value) }

func fields(l ...api.Field) []api.Field { return l }

// others have names that tell nothing here, but values that would.
func others(value string) []api.Field {
	var l []api.Field
	for _, name := range []string{"", "x", "Age", "AGE", "ag", "ages", "page", " age", "age ", "max-age", "s-maxage", "Date", "DATE", "dat", "dates", "update", " date", "date ", "x-date", "expires", "last-modified", "if-modified-since"} {
		l = append(l, field(name, value))
	}
	return l
}

func bigOf(n int64) *big.Int { return big.NewInt(n) }

// within is n limited to a range.
func within(n *big.Int, least, most int64) *big.Int {
	switch {
	case n.Cmp(bigOf(least)) < 0:
		return bigOf(least)
	case n.Cmp(bigOf(most)) > 0:
		return bigOf(most)
	}
	return n
}

func timeByWords(n int64) *big.Int { return within(bigOf(n), 0, end) }

// sumByWords is Sum, made of numbers of any length.
func sumByWords(l ...int64) int {
	sum := new(big.Int)
	for _, n := range l {
		sum.Add(sum, within(bigOf(n), -end, end))
	}
	return int(within(sum, 0, api.Top).Int64())
}

func intervalByWords(from, to int64) *big.Int {
	difference := new(big.Int).Sub(timeByWords(to), timeByWords(from))
	if difference.Sign() < 0 {
		return bigOf(0)
	}
	return difference
}

var digits = regexp.MustCompile(`^[0-9]+$`)

// valueByWords are the values of a name, joined; false if there are none.
func valueByWords(l []api.Field, name string) (string, bool) {
	var values []string
	for _, f := range l {
		if f.Name == name {
			values = append(values, f.Value)
		}
	}
	return strings.Join(values, ", "), values != nil
}

// toldByWords is Told, made of the words.
func toldByWords(l []api.Field) int {
	value, is := valueByWords(l, "age")
	if !is || !digits.MatchString(value) {
		return 0
	}
	n, _ := new(big.Int).SetString(value, 10)
	return int(within(n, 0, api.Top).Int64())
}

// dateByWords is Date, made of the words.
func dateByWords(l []api.Field, other int64) int64 {
	if value, is := valueByWords(l, "date"); is {
		if seconds, is := secondsOf(value); is {
			return timeByWords(seconds).Int64()
		}
	}
	return timeByWords(other).Int64()
}

// currentByWords is Current, made of the words.
func currentByWords(l []api.Field, asked, got, now int64) int {
	greater := intervalByWords(dateByWords(l, got), got)
	if other := new(big.Int).Add(bigOf(int64(toldByWords(l))), intervalByWords(asked, got)); other.Cmp(greater) > 0 {
		greater = other
	}
	return int(within(greater.Add(greater, intervalByWords(got, now)), 0, api.Top).Int64())
}

// brief returns x for a message, cut off where it is long.
func brief(x any) string { return fmt.Sprintf("%.300s", fmt.Sprintf("%v", x)) }

func checkClamp(t *testing.T, n, want int64) {
	if got := age.Clamp(n); got != want {
		t.Helper()
		t.Errorf("Clamp(%d) = %d; not %d", n, got, want)
	}
}

func checkSum(t *testing.T, want int, l ...int64) {
	if got := age.Sum(l...); got != want {
		t.Helper()
		t.Errorf("Sum(%s) = %d; not %d", brief(l), got, want)
	}
}

func checkTold(t *testing.T, want int, l ...api.Field) {
	if got := age.Told(l); got != want {
		t.Helper()
		t.Errorf("Told(%s) = %d; not %d", brief(l), got, want)
	}
}

func checkDate(t *testing.T, want int64, l []api.Field, other int64) {
	if got := age.Date(l, other); got != want {
		t.Helper()
		t.Errorf("Date(%s, %d) = %d; not %d", brief(l), other, got, want)
	}
}

func checkCurrent(t *testing.T, want int, l []api.Field, asked, got, now int64) {
	if n := age.Current(l, asked, got, now); n != want {
		t.Helper()
		t.Errorf("Current(%s, %d, %d, %d) = %d; not %d", brief(l), asked, got, now, n, want)
	}
}

// eachList calls f with all lists of at most that many parts, the empty one among them.
func eachList[T any](parts []T, most int, f func([]T)) {
	var longer func(l []T)
	longer = func(l []T) {
		f(l)
		for _, part := range parts {
			if len(l) < most {
				longer(append(l[:len(l):len(l)], part))
			}
		}
	}
	longer(nil)
}

// eachText calls f with all texts of at most that many pieces, the empty one among them.
func eachText(pieces []string, most int, f func(string)) {
	eachList(pieces, most, func(l []string) { f(strings.Join(l, "")) })
}
