package date

import "scullery/api"

const (
	firstYear    = 1970
	lastYear     = 9999
	firstWeekday = 4 // that of the first day of firstYear, a Thursday
	mostYearDays = 366
	february     = 2
)

// monthDays has the lengths of the months in years that are not leap years.
var monthDays = [12]int{31, 28, 31, 30, 31, 30, 31, 31, 30, 31, 30, 31}

// Days returns the number of a day.
func Days(year, month, day int) (int, api.Errno) {
	if !isDay(year, month, day) {
		return 0, api.ErrArg
	}
	days := daysBefore(year)
	for before := 1; before < month; before++ {
		days += monthLength(year, before)
	}
	return days + day - 1, api.OK
}

func isDay(year, month, day int) bool {
	return firstYear <= year && year <= lastYear && 1 <= month && month <= len(monthDays) &&
		1 <= day && day <= monthLength(year, month)
}

func monthLength(year, month int) int {
	if month == february {
		return monthDays[month-1] + leapYearsBefore(year+1) - leapYearsBefore(year)
	}
	return monthDays[month-1]
}

// daysBefore returns the number of the first day of a year.
func daysBefore(year int) int {
	return 365*(year-firstYear) + leapYearsBefore(year) - leapYearsBefore(firstYear)
}

// leapYearsBefore returns how many leap years there are from the year 1 on.
func leapYearsBefore(year int) int {
	last := year - 1
	return last/4 - last/100 + last/400
}

// dayOf returns the day with a number: Days the other way round.
func dayOf(days int) (year, month, day int) {
	// Too early by a few years at most, and never too late.
	year = firstYear + days/mostYearDays
	for days >= daysBefore(year+1) {
		year++
	}
	rest := days - daysBefore(year)
	for month = 1; rest >= monthLength(year, month); month++ {
		rest -= monthLength(year, month)
	}
	return year, month, rest + 1
}

// Weekday returns the weekday of the day with the number days, 0 if it is negative.
func Weekday(days int) int {
	if days < 0 {
		return 0
	}
	// The remainder first, since the greatest numbers have no room for a sum.
	return (days%len(weekdays) + firstWeekday) % len(weekdays)
}
