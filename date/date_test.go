package date_test

import (
	"math"
	"sync"
	"testing"
	"time"

	"scullery/api"
	"scullery/date"
)

const (
	firstForm  = "Mon, 02 Jan 2006 15:04:05 GMT"
	secondForm = "Monday, 02-Jan-06 15:04:05 GMT"
	thirdForm  = "Mon Jan _2 15:04:05 2006"
	end        = 253402300800 // the first second of the year 10000
)

func layouts() []string { return []string{firstForm, secondForm, thirdForm} }

// written is the date with n seconds by the library.
func written(n int64, layout string) string { return time.Unix(n, 0).UTC().Format(layout) }

// secondFormCanTell reports whether two digits are enough for the year with n seconds.
func secondFormCanTell(n int64) bool { return n < 3155760000 } // the first second of the year 2070

func checkPrint(t *testing.T, n int64, want string) {
	if s, e := date.Print(n); s != want || e != api.OK {
		t.Helper()
		t.Errorf("Print(%d) = %q, %d; not %q", n, s, e, want)
	}
}

func checkNotPrinted(t *testing.T, n int64) {
	if s, e := date.Print(n); s != "" || e != api.ErrRange {
		t.Helper()
		t.Errorf("Print(%d) = %q, %d; not ErrRange", n, s, e)
	}
}

func checkParse(t *testing.T, s string, want int64) {
	if n, e := date.Parse(s); n != want || e != api.OK {
		t.Helper()
		t.Errorf("Parse(%q) = %d, %d; not %d", s, n, e, want)
	}
}

func checkRefused(t *testing.T, texts ...string) {
	for _, s := range texts {
		if n, e := date.Parse(s); n != 0 || e != api.ErrForm {
			t.Helper()
			t.Errorf("Parse(%q) = %d, %d; not ErrForm", s, n, e)
		}
	}
}

// P5.2: Print.

func TestPrint(t *testing.T) {
	for n, want := range map[int64]string{
		0:           "Thu, 01 Jan 1970 00:00:00 GMT",
		1:           "Thu, 01 Jan 1970 00:00:01 GMT",
		59:          "Thu, 01 Jan 1970 00:00:59 GMT",
		60:          "Thu, 01 Jan 1970 00:01:00 GMT",
		3599:        "Thu, 01 Jan 1970 00:59:59 GMT",
		3600:        "Thu, 01 Jan 1970 01:00:00 GMT",
		86399:       "Thu, 01 Jan 1970 23:59:59 GMT",
		86400:       "Fri, 02 Jan 1970 00:00:00 GMT",
		31535999:    "Thu, 31 Dec 1970 23:59:59 GMT",
		31536000:    "Fri, 01 Jan 1971 00:00:00 GMT",
		784111777:   "Sun, 06 Nov 1994 08:49:37 GMT",
		951782399:   "Mon, 28 Feb 2000 23:59:59 GMT",
		951782400:   "Tue, 29 Feb 2000 00:00:00 GMT",
		951868800:   "Wed, 01 Mar 2000 00:00:00 GMT",
		1<<31 - 1:   "Tue, 19 Jan 2038 03:14:07 GMT",
		1 << 31:     "Tue, 19 Jan 2038 03:14:08 GMT",
		1 << 32:     "Sun, 07 Feb 2106 06:28:16 GMT",
		4107542399:  "Sun, 28 Feb 2100 23:59:59 GMT",
		4107542400:  "Mon, 01 Mar 2100 00:00:00 GMT",
		13574563200: "Tue, 29 Feb 2400 00:00:00 GMT",
		end - 86400: "Fri, 31 Dec 9999 00:00:00 GMT",
		end - 1:     "Fri, 31 Dec 9999 23:59:59 GMT",
	} {
		checkPrint(t, n, want)
	}
}

func TestPrintOfSecondsOutOfRange(t *testing.T) {
	for n := range int64(1000) {
		checkNotPrinted(t, -1-n)
		checkNotPrinted(t, end+n)
		checkNotPrinted(t, math.MinInt64+n)
		checkNotPrinted(t, math.MaxInt64-n)
	}
	for n := int64(1); n < 1<<62; n *= 2 {
		checkNotPrinted(t, -n)
		checkNotPrinted(t, end-1+n)
	}
	for _, n := range []int64{-86401, -86400, -86399, -31536000, -end, end + 86399, end + 86400, 2 * end, math.MinInt32, math.MinInt32 - 1, math.MinInt64 / 2, math.MaxInt64 / 2, math.MaxInt64 / 86400, math.MaxInt64 / 86400 * 86400, 86400 << 32, 86400<<32 + 784111777, 86400 << 40, 1 << 48, 1<<62 + 1} {
		checkNotPrinted(t, n)
	}
}

func TestPrintOfManyDays(t *testing.T) {
	eachTellingDay(func(day int64) {
		n := day*86400 + day%86400
		checkPrint(t, n, written(n, firstForm))
	})
}

func TestPrintOfAllSecondsOfADay(t *testing.T) {
	for _, day := range []int64{0, 784080000, 951782400, end - 86400} {
		for second := range int64(86400) {
			checkPrint(t, day+second, written(day+second, firstForm))
		}
	}
}

// P5.3: what is printed is parsed, and what is parsed in the first form is printed.

func checkThereAndBack(t *testing.T, n int64) {
	t.Helper()
	s, e := date.Print(n)
	if e != api.OK {
		t.Errorf("Print(%d): error %d", n, e)
	}
	checkParse(t, s, n)
}

func TestPrintedIsParsed(t *testing.T) {
	eachTellingDay(func(day int64) {
		checkThereAndBack(t, day*86400)
		checkThereAndBack(t, day*86400+86399)
	})
	for second := range int64(86400) {
		checkThereAndBack(t, second)
		checkThereAndBack(t, end-1-second)
	}
	for n := int64(0); n < end; n += 1234567 {
		checkThereAndBack(t, n)
	}
}

func TestParsedIsPrintedUnchanged(t *testing.T) {
	for n := int64(0); n < end; n += 9876543 {
		s := written(n, firstForm)
		parsed, e := date.Parse(s)
		if e != api.OK {
			t.Errorf("Parse(%q): error %d", s, e)
		}
		checkPrint(t, parsed, s)
	}
}

func TestAllFormsArePrintedInTheFirst(t *testing.T) {
	for n := int64(0); n < end; n += 7654321 {
		for _, layout := range layouts() {
			if layout == secondForm && !secondFormCanTell(n) {
				continue
			}
			parsed, _ := date.Parse(written(n, layout))
			checkPrint(t, parsed, written(n, firstForm))
		}
	}
}

// R4 and R5: the same call answers the same again, beside others too.

func TestCallsAtTheSameTime(t *testing.T) {
	var group sync.WaitGroup
	for worker := range 8 {
		group.Go(func() {
			for i := range 2000 {
				n := int64(worker*2000+i) * 200000
				for _, layout := range layouts() {
					if layout != secondForm || secondFormCanTell(n) {
						checkParse(t, written(n, layout), n)
					}
				}
				checkPrint(t, n, written(n, firstForm))
				checkWeekday(t, int(n/86400), int((n/86400+4)%7))
				checkDays(t, 1994, 11, 6, 9075)
				checkNotPrinted(t, -1)
				checkRefused(t, "Sun, 6 Nov 1994 08:49:37 GMT")
			}
		})
	}
	group.Wait()
}
