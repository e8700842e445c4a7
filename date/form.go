package date

import "scullery/api"

// form is one of the forms of a date, all of which begin with a weekday.
type form struct {
	weekday func(weekday int) string // its name
	parse   func(t *text) moment     // reads what is behind the weekday
}

func forms() [3]form {
	return [3]form{
		{shortWeekday, parseFirst},
		{fullWeekday, parseSecond},
		{shortWeekday, parseThird},
	}
}

// moment is a day, valid or not, of which clock seconds have passed.
type moment struct{ year, month, day, clock int }

// seconds returns the seconds of the date that s is in this form.
func (f form) seconds(s string) (int64, api.Errno) {
	t := text{rest: s}
	weekday := t.weekday(f.weekday)
	m := f.parse(&t)
	if t.wrong || t.rest != "" {
		return 0, api.ErrForm
	}
	days, err := Days(m.year, m.month, m.day)
	if err != api.OK || Weekday(days) != weekday {
		return 0, api.ErrForm
	}
	return int64(days)*daySeconds + int64(m.clock), api.OK
}

// parseFirst reads as of Sun, 06 Nov 1994 08:49:37 GMT.
func parseFirst(t *text) moment {
	var m moment
	t.skip(", ")
	m.day = t.number(2)
	t.skip(" ")
	m.month = t.month()
	t.skip(" ")
	m.year = t.number(4)
	t.skip(" ")
	m.clock = t.clock()
	t.skip(" GMT")
	return m
}

// parseSecond reads as of Sunday, 06-Nov-94 08:49:37 GMT.
func parseSecond(t *text) moment {
	var m moment
	t.skip(", ")
	m.day = t.number(2)
	t.skip("-")
	m.month = t.month()
	t.skip("-")
	m.year = fullYear(t.number(2))
	t.skip(" ")
	m.clock = t.clock()
	t.skip(" GMT")
	return m
}

// fullYear returns the year that its last two digits mean.
func fullYear(lastDigits int) int {
	if year := 1900 + lastDigits; year >= firstYear {
		return year
	}
	return 2000 + lastDigits
}

// parseThird reads as of Sun Nov  6 08:49:37 1994.
func parseThird(t *text) moment {
	var m moment
	t.skip(" ")
	m.month = t.month()
	t.skip(" ")
	m.day = t.spacedDay()
	t.skip(" ")
	m.clock = t.clock()
	t.skip(" ")
	m.year = t.number(4)
	return m
}
