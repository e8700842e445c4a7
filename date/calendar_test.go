package date_test

import (
	"math"
	"testing"

	"scullery/api"
	"scullery/date"
)

const dayCount = 2932897 // of the days from 1970 to 9999

// lengthOf is the length of a month by the calendar's rules in words: all fourth years, but of the hundredth ones only all fourth.
func lengthOf(year, month int) int {
	switch month {
	case 4, 6, 9, 11:
		return 30
	case 2:
		switch {
		case year%400 == 0:
			return 29
		case year%100 == 0:
			return 28
		case year%4 == 0:
			return 29
		}
		return 28
	}
	return 31
}

// eachDay calls f with all valid days in order, and their numbers.
func eachDay(f func(number, year, month, day int)) {
	number := 0
	for year := 1970; year <= 9999; year++ {
		for month := 1; month <= 12; month++ {
			for day := 1; day <= lengthOf(year, month); day++ {
				f(number, year, month, day)
				number++
			}
		}
	}
}

// eachTellingDay calls f with the numbers of all days around the edges of centuries and of the whole, and of the first and last days of all months.
func eachTellingDay(f func(number int64)) {
	eachDay(func(number, year, month, day int) {
		if year <= 2101 || year%100 >= 98 || year%100 <= 1 || day == 1 || day == lengthOf(year, month) {
			f(int64(number))
		}
	})
}

func checkDays(t *testing.T, year, month, day, want int) {
	if n, e := date.Days(year, month, day); n != want || e != api.OK {
		t.Helper()
		t.Errorf("Days(%d, %d, %d) = %d, %d; not %d", year, month, day, n, e, want)
	}
}

func checkNoDay(t *testing.T, year, month, day int) {
	if n, e := date.Days(year, month, day); n != 0 || e != api.ErrArg {
		t.Helper()
		t.Errorf("Days(%d, %d, %d) = %d, %d; not 0, ErrArg", year, month, day, n, e)
	}
}

// P5.1: days and their numbers.

func TestDays(t *testing.T) {
	for _, c := range [][4]int{
		{1970, 1, 1, 0}, {1970, 1, 2, 1}, {1970, 1, 31, 30}, {1970, 2, 1, 31}, {1970, 2, 28, 58}, {1970, 3, 1, 59}, {1970, 12, 31, 364},
		{1971, 1, 1, 365}, {1972, 2, 29, 789}, {1972, 3, 1, 790}, {1972, 12, 31, 1095}, {1973, 1, 1, 1096},
		{1994, 11, 6, 9075}, {2000, 1, 1, 10957}, {2000, 2, 29, 11016}, {2000, 3, 1, 11017}, {2000, 12, 31, 11322}, {2001, 1, 1, 11323},
		{2100, 2, 28, 47540}, {2100, 3, 1, 47541}, {2400, 2, 29, 157113}, {9999, 1, 1, dayCount - 365}, {9999, 12, 31, dayCount - 1},
	} {
		checkDays(t, c[0], c[1], c[2], c[3])
	}
}

func TestAllDays(t *testing.T) {
	count := 0
	eachDay(func(number, year, month, day int) {
		checkDays(t, year, month, day, number)
		count++
	})
	if count != dayCount {
		t.Error("not all days:", count)
	}
}

func TestDaysOfMonthsThatAreTooShort(t *testing.T) {
	for year := 1970; year <= 9999; year++ {
		for month := 1; month <= 12; month++ {
			for _, day := range []int{-1, 0, lengthOf(year, month) + 1, 32} {
				checkNoDay(t, year, month, day)
			}
		}
	}
	for _, year := range []int{1970, 1971, 1973, 2001, 2100, 2200, 2300, 2500, 9900, 9999} {
		checkNoDay(t, year, 2, 29)
	}
	for _, year := range []int{1972, 1996, 2000, 2004, 2400, 2800, 9600, 9996} {
		checkNoDay(t, year, 2, 30)
	}
}

// outside are numbers that are no day, no month and no year.
func outside() []int {
	return []int{math.MinInt, math.MinInt + 1, math.MinInt64 / 365, math.MinInt32, -10000, -1970, -31, -12, -1, 0, 10000, 10001, 19700, math.MaxInt32, math.MaxInt32 + 1, math.MaxInt64 / 365, math.MaxInt - 1969, math.MaxInt - 1, math.MaxInt}
}

func TestDaysThatAreNone(t *testing.T) {
	for _, n := range append(outside(), 1969, 1, 12, 31, 70, 94) {
		for _, month := range []int{1, 2, 12} {
			checkNoDay(t, n, month, 1)
			checkNoDay(t, n, month, 28)
		}
	}
	for _, n := range append(outside(), 13, 14, 24, 1970) {
		for _, year := range []int{1970, 2000, 9999} {
			checkNoDay(t, year, n, 1)
			checkNoDay(t, year, n, 31)
		}
	}
	for _, n := range append(outside(), 32, 33, 60, 366) {
		for _, year := range []int{1970, 2000, 9999} {
			for month := range 14 {
				checkNoDay(t, year, month, n)
			}
		}
	}
	for _, x := range outside() {
		for _, y := range outside() {
			checkNoDay(t, x, y, 1)
			checkNoDay(t, x, 1, y)
			checkNoDay(t, 1970, x, y)
			checkNoDay(t, x, y, x)
		}
	}
	// As wide as small integers are, since numbers that are cut off may look like others.
	for n := -70000; n <= 140000; n++ {
		if n < 1970 || n > 9999 {
			checkNoDay(t, n, 1, 1)
		}
		if n < 1 || n > 12 {
			checkNoDay(t, 2000, n, 1)
		}
		if n < 1 || n > 31 {
			checkNoDay(t, 2000, 1, n)
		}
	}
	checkNoDay(t, 1969, 12, 31)
	checkNoDay(t, 10000, 1, 1)
	checkNoDay(t, 31, 12, 1999)
}

// P5.1 and P5.3: weekdays.

func checkWeekday(t *testing.T, days, want int) {
	if got := date.Weekday(days); got != want {
		t.Helper()
		t.Errorf("Weekday(%d) = %d, not %d", days, got, want)
	}
}

func TestWeekday(t *testing.T) {
	for days, want := range []int{4, 5, 6, 0, 1, 2, 3, 4, 5, 6, 0} {
		checkWeekday(t, days, want)
	}
	checkWeekday(t, 9075, 0)  // 6 November 1994
	checkWeekday(t, 11016, 2) // 29 February 2000
	checkWeekday(t, 20776, 4) // 19 November 2026
	checkWeekday(t, dayCount-1, 5)
	checkWeekday(t, dayCount, 6)
}

func TestWeekdaysOfNegativeNumbers(t *testing.T) {
	for n := 1; n < 100; n++ {
		checkWeekday(t, -n, 0)
		checkWeekday(t, math.MinInt+n-1, 0)
	}
	checkWeekday(t, -dayCount, 0)
	checkWeekday(t, math.MinInt32, 0)
}

func TestFollowingDaysHaveFollowingWeekdays(t *testing.T) {
	weekday := 4
	for days := range dayCount + 1000 {
		checkWeekday(t, days, weekday)
		weekday = (weekday + 1) % 7
	}
	for n := math.MaxInt - 1000; n < math.MaxInt; n++ {
		checkWeekday(t, n+1, (date.Weekday(n)+1)%7)
	}
	for _, n := range []int{math.MaxInt32, math.MaxInt32 + 1, math.MaxInt - 6, math.MaxInt - 5, math.MaxInt - 4, math.MaxInt - 3, math.MaxInt - 1, math.MaxInt} {
		checkWeekday(t, n, int((uint64(n)+4)%7))
	}
}

func TestFollowingDaysHaveFollowingNumbers(t *testing.T) {
	before := -1
	eachDay(func(_, year, month, day int) {
		n, e := date.Days(year, month, day)
		if n != before+1 || e != api.OK {
			t.Errorf("Days(%d, %d, %d) = %d, %d behind %d", year, month, day, n, e, before)
		}
		if before >= 0 && date.Weekday(n) != (date.Weekday(before)+1)%7 {
			t.Error("not the following weekday:", year, month, day)
		}
		before = n
	})
}
