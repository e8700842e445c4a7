package date_test

import (
	"regexp"
	"strconv"
	"strings"
	"testing"
	"time"

	"scullery/api"
	"scullery/date"
)

const (
	monthNames = "JanFebMarAprMayJunJulAugSepOctNovDec"
	clockForm  = `(?P<hour>[0-9]{2}):(?P<minute>[0-9]{2}):(?P<second>[0-9]{2})`
	shortForm  = `(?P<weekday>[A-Z][a-z]{2})`
	monthForm  = `(?P<month>[A-Z][a-z]{2})`
)

// The forms as the document shows them; whether there is such a day is asked behind.
var byForm = []*regexp.Regexp{
	regexp.MustCompile(`\A` + shortForm + `, (?P<day>[0-9]{2}) ` + monthForm + ` (?P<year>[0-9]{4}) ` + clockForm + ` GMT\z`),
	regexp.MustCompile(`\A(?P<weekday>[A-Z][a-z]{5,8}), (?P<day>[0-9]{2})-` + monthForm + `-(?P<year>[0-9]{2}) ` + clockForm + ` GMT\z`),
	regexp.MustCompile(`\A` + shortForm + ` ` + monthForm + ` (?P<day> [0-9]|[1-9][0-9]) ` + clockForm + ` (?P<year>[0-9]{4})\z`),
}

// read is a second reading of the document: the seconds of the date that s is, and whether it is one.
func read(s string) (int64, bool) {
	for _, form := range byForm {
		found := form.FindStringSubmatch(s)
		if found == nil {
			continue
		}
		part := func(name string) string { return strings.TrimSpace(found[form.SubexpIndex(name)]) }
		number := func(name string) int { n, _ := strconv.Atoi(part(name)); return n }
		year, month := number("year"), strings.Index(monthNames, part("month"))
		if len(part("year")) == 2 {
			year += 1900
			if year < 1970 {
				year += 100
			}
		}
		if month%3 != 0 || year < 1970 {
			return 0, false
		}
		at := time.Date(year, time.Month(1+month/3), number("day"), number("hour"), number("minute"), number("second"), 0, time.UTC)
		name := at.Weekday().String()
		if len(part("year")) == 4 {
			name = name[:3]
		}
		if part("weekday") != name {
			return 0, false
		}
		// The library carries what is too great on to the next part.
		if at.Day() != number("day") || at.Hour() != number("hour") || at.Minute() != number("minute") || at.Second() != number("second") {
			return 0, false
		}
		return at.Unix(), true
	}
	return 0, false
}

// checkByForm holds Parse against the second reading, and reports whether s is a date.
func checkByForm(t *testing.T, s string) bool {
	t.Helper()
	n, is := read(s)
	if is {
		checkParse(t, s, n)
	} else {
		checkRefused(t, s)
	}
	return is
}

// samples are dates in all forms.
func samples() []string {
	var all []string
	for _, n := range []int64{0, 784111777, 784944000, 951868799, 946684799, 946684800, 3155759999} {
		for _, layout := range layouts() {
			all = append(all, written(n, layout))
		}
	}
	return append(all, "Fri, 31 Dec 9999 23:59:59 GMT", "Fri Dec 31 23:59:59 9999", "Mon, 01 Mar 2100 00:00:00 GMT", "Mon Mar  1 00:00:00 2100")
}

// P5.2: dates in the three forms.

func TestParse(t *testing.T) {
	for s, want := range map[string]int64{
		"Thu, 01 Jan 1970 00:00:00 GMT": 0, "Thursday, 01-Jan-70 00:00:00 GMT": 0, "Thu Jan  1 00:00:00 1970": 0,
		"Sun, 06 Nov 1994 08:49:37 GMT": 784111777, "Sunday, 06-Nov-94 08:49:37 GMT": 784111777, "Sun Nov  6 08:49:37 1994": 784111777,
		"Wed, 16 Nov 1994 00:00:00 GMT": 784944000, "Wednesday, 16-Nov-94 00:00:00 GMT": 784944000, "Wed Nov 16 00:00:00 1994": 784944000,
		"Fri, 31 Dec 1999 23:59:59 GMT": 946684799, "Friday, 31-Dec-99 23:59:59 GMT": 946684799, "Fri Dec 31 23:59:59 1999": 946684799,
		"Sat, 01 Jan 2000 00:00:00 GMT": 946684800, "Saturday, 01-Jan-00 00:00:00 GMT": 946684800, "Sat Jan  1 00:00:00 2000": 946684800,
		"Tue, 29 Feb 2000 23:59:59 GMT": 951868799, "Tuesday, 29-Feb-00 23:59:59 GMT": 951868799, "Tue Feb 29 23:59:59 2000": 951868799,
		"Tue, 31 Dec 2069 23:59:59 GMT": 3155759999, "Tuesday, 31-Dec-69 23:59:59 GMT": 3155759999, "Tue Dec 31 23:59:59 2069": 3155759999,
		"Mon, 01 Mar 2100 00:00:00 GMT": 4107542400, "Mon Mar  1 00:00:00 2100": 4107542400,
		"Tue, 29 Feb 2400 00:00:00 GMT": 13574563200, "Tue Feb 29 00:00:00 2400": 13574563200,
		"Fri, 31 Dec 9999 23:59:59 GMT": end - 1, "Fri Dec 31 23:59:59 9999": end - 1,
	} {
		checkParse(t, s, want)
		if n, is := read(s); n != want || !is {
			t.Error("the second reading is wrong:", s, n, is)
		}
	}
}

func TestParseOfManyDays(t *testing.T) {
	eachTellingDay(func(day int64) {
		n := day*86400 + day%86400
		checkParse(t, written(n, firstForm), n)
		checkParse(t, written(n, thirdForm), n)
		if secondFormCanTell(n) {
			checkParse(t, written(n, secondForm), n)
		}
	})
}

func twoDigits(n int) string { return strconv.Itoa(100 + n)[1:] }

func TestParseOfAllTimes(t *testing.T) {
	for hour := range 26 {
		for minute := range 62 {
			for second := range 62 {
				clock := twoDigits(hour) + ":" + twoDigits(minute) + ":" + twoDigits(second)
				n := int64(784080000 + 3600*hour + 60*minute + second)
				for _, s := range []string{"Sun, 06 Nov 1994 " + clock + " GMT", "Sunday, 06-Nov-94 " + clock + " GMT", "Sun Nov  6 " + clock + " 1994"} {
					if hour <= 23 && minute <= 59 && second <= 59 {
						checkParse(t, s, n)
					} else {
						checkRefused(t, s)
					}
				}
			}
		}
	}
}

func TestTimesThatAreNone(t *testing.T) {
	for _, clock := range []string{"24:00:00", "00:60:00", "00:00:60", "23:59:60", "23:60:00", "30:49:37", "99:49:37", "08:70:37", "08:99:37", "08:49:70", "08:49:99", "99:99:99", "8:49:37", "08:9:37", "08:49:7", " 8:49:37", "08: 9:37", "08:49: 7", "08:49", "08", "", "084937", "08.49.37", "08-49-37", "08:49:37.0", "008:49:37", "08:049:37", "08:49:037", "08:49:37:00", "-8:49:37", "+8:49:37", ":49:37", "08::37", "08:49:", "::", "8::", ":4:", "08:49:3a", "0x:49:37", "08:49:37 ", " 08:49:37", "08:49:37Z", "08 49 37", "08:49:37 AM", "\u0660\u0668:49:37"} {
		checkRefused(t, "Sun, 06 Nov 1994 "+clock+" GMT", "Sunday, 06-Nov-94 "+clock+" GMT", "Sun Nov  6 "+clock+" 1994")
	}
}

// P5.2: the years.

func TestYearsOfTwoDigits(t *testing.T) {
	for last := range 100 {
		year := 1900 + last
		if last <= 69 {
			year = 2000 + last
		}
		at := time.Date(year, 7, 4, 12, 0, 0, 0, time.UTC)
		for weekday := range time.Weekday(7) {
			s := weekday.String() + ", 04-Jul-" + twoDigits(last) + " 12:00:00 GMT"
			if weekday == at.Weekday() {
				checkParse(t, s, at.Unix())
			} else {
				checkRefused(t, s)
			}
		}
	}
	checkParse(t, "Thursday, 01-Jan-70 00:00:00 GMT", 0)
	checkParse(t, "Tuesday, 01-Jan-69 00:00:00 GMT", 3124224000)
	checkRefused(t, "Wednesday, 01-Jan-69 00:00:00 GMT", "Thursday, 01-Jan-69 00:00:00 GMT", "Wednesday, 01-Jan-70 00:00:00 GMT")
	checkParse(t, "Friday, 01-Jan-99 00:00:00 GMT", 915148800)
	checkRefused(t, "Thursday, 01-Jan-99 00:00:00 GMT", "Saturday, 29-Feb-69 00:00:00 GMT", "Friday, 29-Feb-69 00:00:00 GMT")
}

func TestYears(t *testing.T) {
	names := []string{"Sun", "Mon", "Tue", "Wed", "Thu", "Fri", "Sat"}
	for year := range 10000 {
		digits := strconv.Itoa(10000 + year)[1:]
		at := time.Date(year, 1, 1, 0, 0, 0, 0, time.UTC)
		for weekday, name := range names {
			first, third := name+", 01 Jan "+digits+" 00:00:00 GMT", name+" Jan  1 00:00:00 "+digits
			if year >= 1970 && time.Weekday(weekday) == at.Weekday() {
				checkParse(t, first, at.Unix())
				checkParse(t, third, at.Unix())
			} else {
				checkRefused(t, first, third)
			}
		}
	}
	checkRefused(t, "Wed, 31 Dec 1969 23:59:59 GMT", "Wed Dec 31 23:59:59 1969", "Sat, 01 Jan 10000 00:00:00 GMT", "Sat Jan  1 00:00:00 10000", "Thu, 01 Jan 0000 00:00:00 GMT")
	for _, year := range []string{"", "4", "94", "994", "01994", "19940", " 1994", "1994 ", "+994", "-994", "199a", "19 4", "1,994", "\u0661994"} {
		checkRefused(t, "Sun, 06 Nov "+year+" 08:49:37 GMT", "Sun Nov  6 08:49:37 "+year)
	}
	for _, year := range []string{"", "4", "994", "1994", "094", "940", " 4", "4 ", " 94", "94 ", "+4", "-4", "9a", "a4", "\u0669\u0664", "'94"} {
		checkRefused(t, "Sunday, 06-Nov-"+year+" 08:49:37 GMT")
	}
}

// P5.2: the days.

func TestDaysOfTwoBytes(t *testing.T) {
	days := 0
	for first := range 256 {
		for second := range 256 {
			day := string([]byte{byte(first), byte(second)})
			for _, name := range []string{"Sun", "Mon"} {
				for _, s := range []string{name + ", " + day + " Nov 1994 08:49:37 GMT", name + "day, " + day + "-Nov-94 08:49:37 GMT", name + " Nov " + day + " 08:49:37 1994"} {
					if checkByForm(t, s) {
						days++
					}
				}
			}
		}
	}
	// In the November of 1994 there were 4 Sundays and 4 Mondays.
	if days != 24 {
		t.Error("not the dates of all forms:", days)
	}
}

func TestDaysOfOneDigit(t *testing.T) {
	for day := 1; day <= 9; day++ {
		at := time.Date(1994, 11, day, 8, 49, 37, 0, time.UTC)
		full, digit := at.Weekday().String(), strconv.Itoa(day)
		checkParse(t, full[:3]+", 0"+digit+" Nov 1994 08:49:37 GMT", at.Unix())
		checkParse(t, full+", 0"+digit+"-Nov-94 08:49:37 GMT", at.Unix())
		checkParse(t, full[:3]+" Nov  "+digit+" 08:49:37 1994", at.Unix())
		for _, s := range []string{digit, " " + digit, "00" + digit, "  " + digit, " 0" + digit, digit + " ", "+" + digit, "-" + digit} {
			checkRefused(t, full[:3]+", "+s+" Nov 1994 08:49:37 GMT", full+", "+s+"-Nov-94 08:49:37 GMT")
		}
		for _, s := range []string{digit, "0" + digit, "00" + digit, "  " + digit, " 0" + digit, digit + " ", " " + digit + " ", "+" + digit, "-" + digit, "\t" + digit} {
			checkRefused(t, full[:3]+" Nov "+s+" 08:49:37 1994")
		}
	}
}

func TestDaysThatTheMonthHasNot(t *testing.T) {
	names := []string{"Sunday", "Monday", "Tuesday", "Wednesday", "Thursday", "Friday", "Saturday"}
	for _, year := range []int{1970, 1999, 2000, 2004, 2069} {
		for month := 1; month <= 12; month++ {
			name, four, two := time.Month(month).String()[:3], strconv.Itoa(year), twoDigits(year%100)
			// With all weekdays, since a day that is not there has none.
			for _, weekday := range names {
				for _, day := range []int{0, lengthOf(year, month) + 1, 32, 40, 99} {
					checkRefused(t, weekday[:3]+", "+twoDigits(day)+" "+name+" "+four+" 00:00:00 GMT",
						weekday+", "+twoDigits(day)+"-"+name+"-"+two+" 00:00:00 GMT",
						weekday[:3]+" "+name+" "+twoDigits(day)+" 00:00:00 "+four,
						weekday[:3]+" "+name+"  0 00:00:00 "+four)
				}
			}
			last := time.Date(year, time.Month(month), lengthOf(year, month), 0, 0, 0, 0, time.UTC).Unix()
			for _, layout := range layouts() {
				checkParse(t, written(last, layout), last)
			}
		}
	}
	for _, weekday := range names {
		checkRefused(t, weekday[:3]+", 29 Feb 2100 00:00:00 GMT", weekday[:3]+" Feb 29 00:00:00 2100", weekday[:3]+", 29 Feb 9999 00:00:00 GMT")
	}
}

// P5.2: the names.

func TestWeekdays(t *testing.T) {
	full := []string{"Sunday", "Monday", "Tuesday", "Wednesday", "Thursday", "Friday", "Saturday"}
	var names []string
	for _, name := range full {
		names = append(names, name, name[:3], name[:2], name[:4], name[:3]+".", name[:3]+"day", " "+name, name+" ", name[:3]+" ", name+"s",
			strings.ToLower(name), strings.ToUpper(name), strings.ToLower(name[:3]), strings.ToUpper(name[:3]), name[:3]+strings.ToUpper(name[3:]), strings.ToLower(name[:1])+strings.ToUpper(name[1:]))
	}
	names = append(names, "", " ", "Sonntag", "day", "0", "4", "Nov", "S\u00fcn", "Tues", "Thur", "Sun\u017fday")
	for day := range int64(14) {
		n := 784111777 + day*86400
		right := full[day%7]
		_, first, _ := strings.Cut(written(n, firstForm), ",")
		_, second, _ := strings.Cut(written(n, secondForm), ",")
		_, third, _ := strings.Cut(written(n, thirdForm), " ")
		for _, name := range names {
			for s, wanted := range map[string]string{name + "," + first: right[:3], name + "," + second: right, name + " " + third: right[:3]} {
				if name == wanted {
					checkParse(t, s, n)
				} else {
					checkRefused(t, s)
				}
			}
		}
	}
}

func TestMonths(t *testing.T) {
	var months []string
	wrong := []string{"", "   ", "Sept", "Mai", "Okt", "Dez", "Sun", "anF", "00", "13", "\u0408an"}
	for month := time.January; month <= time.December; month++ {
		full := month.String()
		name := full[:3]
		months = append(months, name)
		wrong = append(wrong, name[:2], name+".", name+"x", name+" ", " "+name, strings.ToLower(name), strings.ToUpper(name), strings.ToLower(name[:1])+strings.ToUpper(name[1:]), strconv.Itoa(int(month)), twoDigits(int(month)))
		if month != time.May {
			wrong = append(wrong, full, strings.ToLower(full))
		}
	}
	for i, month := range months {
		n := time.Date(1994, time.Month(i+1), 6, 8, 49, 37, 0, time.UTC).Unix()
		for _, layout := range layouts() {
			ahead, behind, _ := strings.Cut(written(n, layout), month)
			checkParse(t, ahead+month+behind, n)
			for _, other := range months {
				// Its 6th may have the same weekday.
				checkByForm(t, ahead+other+behind)
			}
			for _, name := range wrong {
				checkRefused(t, ahead+name+behind)
			}
		}
	}
	checkRefused(t, "Sun, 06 November 1994 08:49:37 GMT", "Sunday, 06-November-94 08:49:37 GMT", "Sun November  6 08:49:37 1994", "Sun, 06 nov 1994 08:49:37 GMT", "Sunday, 06-NOV-94 08:49:37 GMT", "Sun noV  6 08:49:37 1994", "Sun, 06 11 1994 08:49:37 GMT")
}

// P5.2: texts that are not of the forms.

func TestTextsThatAreNoDates(t *testing.T) {
	checkRefused(t, "", " ", "0", "-1", "784111777", "GMT", "Sun", "Sunday", "Sun, ", "Sunday, ", "Sun ", "\x00", "\xff", "Thu", "Thu, 01 Jan 1970", "1970-01-01T00:00:00Z", "Nov 6 1994", ", 06 Nov 1994 08:49:37 GMT")
	// Of other zones, or of none.
	checkRefused(t, "Sun, 06 Nov 1994 08:49:37", "Sun, 06 Nov 1994 08:49:37 ", "Sun, 06 Nov 1994 08:49:37GMT", "Sun, 06 Nov 1994 08:49:37 gmt", "Sun, 06 Nov 1994 08:49:37 UTC", "Sun, 06 Nov 1994 08:49:37 Z", "Sun, 06 Nov 1994 08:49:37 +0000", "Sun, 06 Nov 1994 08:49:37 GMT+1", "Sun, 06 Nov 1994 08:49:37 GM", "Sunday, 06-Nov-94 08:49:37", "Sunday, 06-Nov-94 08:49:37 UTC", "Sunday, 06-Nov-94 08:49:37 gmt", "Sun Nov  6 08:49:37 1994 GMT", "Sun Nov  6 08:49:37 GMT 1994")
	// Of two forms.
	checkRefused(t, "Sun, 06-Nov-94 08:49:37 GMT", "Sun, 06-Nov-1994 08:49:37 GMT", "Sunday, 06-Nov-1994 08:49:37 GMT", "Sunday, 06 Nov 94 08:49:37 GMT", "Sunday, 06 Nov 1994 08:49:37 GMT", "Sun, 06 Nov 94 08:49:37 GMT", "Sunday Nov  6 08:49:37 1994", "Sun, Nov  6 08:49:37 1994", "Sun Nov 06 08:49:37 1994", "Sun Nov  6 1994 08:49:37", "Sun 06 Nov 1994 08:49:37 GMT", "Sun,  6 Nov 1994 08:49:37 GMT", "Sunday,  6-Nov-94 08:49:37 GMT", "Sun Nov  6 08:49:37 94", "Sunday, 06-Nov 94 08:49:37 GMT", "Sunday, 06 Nov-94 08:49:37 GMT", "Sun, 06-Nov 1994 08:49:37 GMT", "Sun, 06 Nov-1994 08:49:37 GMT")
	// With other blanks.
	checkRefused(t, "Sun,06 Nov 1994 08:49:37 GMT", "Sun,  06 Nov 1994 08:49:37 GMT", "Sun,\t06 Nov 1994 08:49:37 GMT", "Sun , 06 Nov 1994 08:49:37 GMT", "Sun, 06  Nov 1994 08:49:37 GMT", "Sun, 06 Nov  1994 08:49:37 GMT", "Sun, 06 Nov 1994  08:49:37 GMT", "Sun, 06 Nov 1994 08:49:37  GMT", "Sun, 06 Nov 1994\u00a008:49:37 GMT", "Sunday,06-Nov-94 08:49:37 GMT", "Sunday, 06-Nov-94\t08:49:37 GMT", "Sunday, 06 - Nov - 94 08:49:37 GMT", "Sun  Nov  6 08:49:37 1994", "Sun Nov 6 08:49:37 1994", "Sun Nov\t 6 08:49:37 1994", "Sun Nov \t6 08:49:37 1994", "Sun Nov  6  08:49:37 1994", "Sun Nov  6 08:49:37  1994", "Sun Nov   6 08:49:37 1994", "Wed Nov  16 00:00:00 1994")
}

func TestWhatStandsAheadOfADateOrBehindIt(t *testing.T) {
	for _, s := range samples() {
		n, is := read(s)
		if !is {
			t.Error("no date:", s)
		}
		checkParse(t, s, n)
		for c := range 256 {
			one := string([]byte{byte(c)})
			checkRefused(t, one+s, s+one, one+s+one)
		}
		checkRefused(t, s+s, s+" "+s, s+", "+s, s+"\r\n", `"`+s+`"`, "Date: "+s, s+" GMT", s+strings.Repeat(" ", 100000), strings.Repeat(s, 10000), strings.Repeat(" ", 100000)+s)
		for i := range len(s) {
			checkRefused(t, s[:i], s[i+1:])
		}
	}
}

// changed calls f with s after all changes of one place: a byte replaced or put in, bytes taken out, and two swapped.
func changed(s string, f func(string)) {
	for i := range len(s) {
		for c := range 256 {
			one := string([]byte{byte(c)})
			f(s[:i] + one + s[i+1:])
			f(s[:i] + one + s[i:])
		}
		for j := i + 1; j <= len(s); j++ {
			f(s[:i] + s[j:])
		}
		if i > 0 {
			f(s[:i-1] + s[i:i+1] + s[i-1:i] + s[i+1:])
		}
	}
}

func TestDatesWithOneChange(t *testing.T) {
	dates, refused := 0, 0
	for _, sample := range samples() {
		changed(sample, func(s string) {
			if checkByForm(t, s) {
				dates++
			} else {
				refused++
			}
		})
	}
	if dates < 100 || refused < 100 {
		t.Error("one side only:", dates, refused)
	}
}

func TestDatesWithTwoOtherBytes(t *testing.T) {
	const bytes = "0123456789 ,-:GSa"
	dates := 0
	for _, sample := range []string{"Sun, 06 Nov 1994 08:49:37 GMT", "Sunday, 06-Nov-94 08:49:37 GMT", "Sun Nov  6 08:49:37 1994", "Wed Nov 16 00:00:00 1994"} {
		s := []byte(sample)
		for i := range s {
			for j := range i {
				for x := range len(bytes) {
					for y := range len(bytes) {
						s[i], s[j] = bytes[x], bytes[y]
						if checkByForm(t, string(s)) {
							dates++
						}
					}
				}
				s[j] = sample[j]
			}
			s[i] = sample[i]
		}
	}
	if dates < 100 {
		t.Error("too few dates:", dates)
	}
}

func TestRefusedDatesDoNotReturnTheirSeconds(t *testing.T) {
	for _, layout := range layouts() {
		s := written(784111777, layout)
		for weekday := time.Monday; weekday <= time.Saturday; weekday++ {
			wrong := weekday.String()[:3] + s[3:]
			if layout == secondForm {
				wrong = weekday.String() + s[len("Sunday"):]
			}
			if n, e := date.Parse(wrong); n != 0 || e != api.ErrForm {
				t.Errorf("Parse(%q) = %d, %d", wrong, n, e)
			}
		}
	}
}
