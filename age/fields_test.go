package age_test

import (
	"math"
	"slices"
	"strconv"
	"strings"
	"testing"

	"scullery/age"
	"scullery/api"
	"scullery/date"
	"scullery/head"
)

// P13.2: Told.

func TestNumbersThatAreTold(t *testing.T) {
	for _, n := range []int{0, 1, 9, 10, 60, 3600, noon, api.Top - 1, api.Top} {
		text := strconv.Itoa(n)
		checkTold(t, n, told(text))
		checkTold(t, n, told("0"+text))
		checkTold(t, n, told(strings.Repeat("0", 300)+text))
		checkTold(t, n, slices.Concat(others("7"), fields(told(text)), others(noonText))...)
		checkTold(t, n, dated(noonText), told(text))
	}
	checkTold(t, 0, told("00"))
	for _, text := range []string{"2147483649", "2147483650", "4294967296", "4294967297", "9999999999", "99999999999", "1099511627776", "9223372036854775807", "9223372036854775808", "18446744073709551616", "18446744073709551621", "00002147483649", strings.Repeat("9", many)} {
		checkTold(t, api.Top, told(text))
	}
	checkTold(t, 8, told(strings.Repeat("0", many)+"8"))
}

func TestNoAgeIsTold(t *testing.T) {
	checkTold(t, 0)
	checkTold(t, 0, []api.Field{}...)
	checkTold(t, 0, others("5")...)
	for _, other := range others("5") {
		checkTold(t, 0, other)
	}
	checkTold(t, 0, dated("5"))
	checkTold(t, 0, dated(noonText))
}

func TestAnAgeThatIsNoNumber(t *testing.T) {
	for _, text := range []string{"", " ", "x", "-", "-1", "-0", "+5", "+0", " 5", "5 ", "\t5", "5\t", "5s", "s5", "5.0", "5.", ".5", "5,", ",5", "5,5", "5, 5", "5 5", "1e3", "0x10", "1_000", "5;a", `"5"`, "\u0665", "\uff15", "5\x00", "\x005", "5\r\n", "\xff", "/", ":", "5/", "5:", noonText, "inf", strings.Repeat("9", many) + "x", strings.Repeat("9", many) + " "} {
		checkTold(t, 0, told(text))
		checkTold(t, 0, slices.Concat(others("5"), fields(told(text)), others("5"))...)
	}
	for c := range 256 {
		for _, text := range []string{string([]byte{byte(c)}), string([]byte{'5', byte(c)}), string([]byte{byte(c), '5'}), string([]byte{'5', byte(c), '6'})} {
			checkTold(t, toldByWords(fields(told(text))), told(text))
		}
	}
}

func TestAnAgeThatIsToldTwice(t *testing.T) {
	for _, first := range []string{"5", "0", "", "x", "99999999999"} {
		for _, second := range []string{"5", "0", "6", "", "x", "-1"} {
			checkTold(t, 0, told(first), told(second))
			checkTold(t, 0, told(first), dated(noonText), told(second), field("x", "5"))
			checkTold(t, 0, told(first), told(second), told("5"))
		}
	}
}

func TestToldByWords(t *testing.T) {
	eachText([]string{"0", "1", "9", "2147483648", "-", " ", "x", ","}, 5, func(text string) {
		checkTold(t, toldByWords(fields(told(text))), told(text))
	})
	eachList(fields(told("5"), told("007"), told("9999999999"), told(""), told("x"), field("Age", "8"), dated("9"), field("", "6")), 4, func(l []api.Field) {
		checkTold(t, toldByWords(l), l...)
	})
}

// P13.2: Date.

func TestDates(t *testing.T) {
	for _, text := range dates() {
		seconds, _ := secondsOf(text)
		for _, other := range edges() {
			checkDate(t, seconds, fields(dated(text)), other)
		}
		checkDate(t, seconds, slices.Concat(others(afterText), fields(dated(text)), others("x")), 5)
		checkDate(t, seconds, fields(told("7"), dated(text), told("x")), 5)
	}
}

func TestNoDateIsTold(t *testing.T) {
	for _, other := range edges() {
		want := timeByWords(other).Int64()
		checkDate(t, want, nil, other)
		checkDate(t, want, []api.Field{}, other)
		checkDate(t, want, others(noonText), other)
		checkDate(t, want, fields(told(noonText)), other)
		checkDate(t, want, fields(told("5")), other)
	}
	for _, field := range others(noonText) {
		checkDate(t, 5, fields(field), 5)
	}
	// The ends, by numbers.
	checkDate(t, 0, nil, -1)
	checkDate(t, 0, nil, math.MinInt64)
	checkDate(t, 0, nil, 0)
	checkDate(t, 1, nil, 1)
	checkDate(t, end-1, nil, end-1)
	checkDate(t, end, nil, end)
	checkDate(t, end, nil, end+1)
	checkDate(t, end, nil, math.MaxInt64)
}

func TestADateThatIsNone(t *testing.T) {
	for _, text := range noDates() {
		for _, other := range edges() {
			checkDate(t, timeByWords(other).Int64(), fields(dated(text)), other)
		}
		checkDate(t, 5, slices.Concat(others(noonText), fields(dated(text)), others(noonText)), 5)
		checkDate(t, 0, fields(dated(text)), -5)
		checkDate(t, end, fields(dated(text)), 1<<50)
	}
	checkDate(t, 5, fields(dated(strings.Repeat(noonText, many))), 5)
}

func TestADateThatIsToldTwice(t *testing.T) {
	for _, first := range append(dates(), noDates()...) {
		for _, second := range []string{noonText, "Sun Nov  6 12:00:00 1994", "Sunday, 06-Nov-94 12:00:00 GMT", "x", ""} {
			checkDate(t, 5, fields(dated(first), dated(second)), 5)
			checkDate(t, 0, fields(dated(first), told("5"), dated(second)), -5)
			checkDate(t, end, fields(dated(first), dated(second), dated(first)), end+5)
		}
	}
	// Joined they may be a date.
	for _, text := range []string{noonText, "Sunday, 06-Nov-94 12:00:00 GMT"} {
		weekday, rest, _ := strings.Cut(text, ", ")
		checkDate(t, noon, fields(dated(weekday), dated(rest)), 5)
		checkDate(t, 5, fields(dated(rest), dated(weekday)), 5)
	}
}

func TestDatesByWords(t *testing.T) {
	eachList(fields(dated(noonText), dated("Sun"), dated("06 Nov 1994 12:00:00 GMT"), dated("Thu Jan  1 00:00:10 1970"), dated(""), dated("x"), field("Date", afterText), told(aheadText)), 4, func(l []api.Field) {
		checkDate(t, dateByWords(l, 5), l, 5)
		checkDate(t, dateByWords(l, math.MinInt64), l, math.MinInt64)
	})
	for n := int64(0); n < lastDate; n = 2*n + 7 {
		text, e := date.Print(n)
		if e != api.OK {
			t.Errorf("Print(%d): %d", n, e)
		}
		checkDate(t, n, head.With(nil, "date", text), 5)
	}
}

// P0 and R3: many fields; what is given stays as it is.

func TestManyFields(t *testing.T) {
	l := slices.Repeat(fields(field("x", "5"), field("Date", noonText)), many)
	checkTold(t, 0, l...)
	checkDate(t, 5, l, 5)
	l = append(l, told("7"), dated(noonText))
	checkTold(t, 7, l...)
	checkDate(t, noon, l, 5)
	checkCurrent(t, 19, l, noon-5, noon+3, noon+7)
	l = slices.Repeat(fields(told("5"), dated(noonText)), many)
	checkTold(t, 0, l...)
	checkDate(t, 5, l, 5)
	checkCurrent(t, 10, l, 10, 15, 20)
}

func TestFieldsStay(t *testing.T) {
	l := append(others("5"), told("7"), dated(noonText), told("8"))
	same := slices.Clone(l)
	age.Told(l)
	age.Told(l[:len(l)-1])
	age.Date(l, 5)
	age.Date(l[:3], 5)
	age.Current(l, 1, 2, 3)
	age.Current(l[:len(l)-1], 1, 2, 3)
	if !slices.Equal(l, same) {
		t.Error("the fields are changed:", l)
	}
}
