package age_test

import (
	"math"
	"strconv"
	"sync"
	"testing"

	"scullery/age"
	"scullery/api"
	"scullery/head"
)

// P13.2: Current.

func TestResponsesWithoutAgeOrDate(t *testing.T) {
	for _, l := range [][]api.Field{nil, {}, others("5"), others(noonText), fields(told("x"), dated("x")), fields(told("0")), fields(told("5"), told("5"))} {
		checkCurrent(t, 0, l, 0, 0, 0)
		checkCurrent(t, 10, l, 10, 15, 20)
		// Asked for before, at and after the moment at which it came.
		checkCurrent(t, 1, l, 99, 100, 100)
		checkCurrent(t, 0, l, 100, 100, 100)
		checkCurrent(t, 0, l, 101, 100, 100)
		checkCurrent(t, 100, l, 0, 100, 100)
		checkCurrent(t, 0, l, end, 100, 100)
		// Looked at before, at and after it.
		checkCurrent(t, 0, l, 100, 100, 99)
		checkCurrent(t, 0, l, 100, 100, 100)
		checkCurrent(t, 1, l, 100, 100, 101)
		checkCurrent(t, 0, l, 100, 100, 0)
		// Both.
		checkCurrent(t, 7, l, 96, 100, 103)
		checkCurrent(t, 4, l, 96, 100, 97)
		checkCurrent(t, 3, l, 104, 100, 103)
		checkCurrent(t, 0, l, 104, 100, 97)
		checkCurrent(t, 5, l, 10, 15, 12)
		checkCurrent(t, 5, l, 10, 15, 5)
	}
}

func TestResponsesWithAnAge(t *testing.T) {
	for _, l := range [][]api.Field{fields(told("50")), fields(told("0050")), fields(told("50"), dated("x")), append(others(noonText), told("50"))} {
		checkCurrent(t, 50, l, 0, 0, 0)
		checkCurrent(t, 50, l, 100, 100, 100)
		checkCurrent(t, 60, l, 90, 100, 100)
		checkCurrent(t, 50, l, 110, 100, 100)
		checkCurrent(t, 57, l, 100, 100, 107)
		checkCurrent(t, 50, l, 100, 100, 93)
		checkCurrent(t, 67, l, 90, 100, 107)
		checkCurrent(t, 60, l, 90, 100, 93)
		checkCurrent(t, 57, l, 110, 100, 107)
	}
}

func TestResponsesWithADate(t *testing.T) {
	for _, text := range []string{noonText, "Sunday, 06-Nov-94 12:00:00 GMT", "Sun Nov  6 12:00:00 1994"} {
		for _, l := range [][]api.Field{fields(dated(text)), fields(dated(text), told("x")), append(others("5"), dated(text))} {
			// Earlier than, the same as and later than the moment at which the response came.
			checkCurrent(t, 1, l, noon+1, noon+1, noon+1)
			checkCurrent(t, 0, l, noon, noon, noon)
			checkCurrent(t, 0, l, noon-1, noon-1, noon-1)
			checkCurrent(t, 60, l, noon+60, noon+60, noon+60)
			checkCurrent(t, 0, l, noon-60, noon-60, noon-60)
			checkCurrent(t, 5, l, noon-60, noon-60, noon-55)
			checkCurrent(t, 65, l, noon+60, noon+60, noon+65)
			checkCurrent(t, 60, l, noon+60, noon+60, noon+55)
			// The request counts only if it is longer.
			checkCurrent(t, 60, l, noon+50, noon+60, noon+60)
			checkCurrent(t, 60, l, noon, noon+60, noon+60)
			checkCurrent(t, 61, l, noon-1, noon+60, noon+60)
			checkCurrent(t, 60, l, noon+70, noon+60, noon+60)
			checkCurrent(t, 10, l, noon-70, noon-60, noon-60)
		}
	}
}

func TestTheGreaterAge(t *testing.T) {
	l := func(seconds string) []api.Field { return fields(told(seconds), dated(noonText)) }
	const got = noon + 100
	// By the date it is 100, by the age field the number in it and 10.
	for _, now := range []int64{0, got - 1, got} {
		checkCurrent(t, 100, l("0"), got-10, got, now)
		checkCurrent(t, 100, l("89"), got-10, got, now)
		checkCurrent(t, 100, l("90"), got-10, got, now)
		checkCurrent(t, 101, l("91"), got-10, got, now)
		checkCurrent(t, 110, l("100"), got-10, got, now)
		checkCurrent(t, 510, l("500"), got-10, got, now)
	}
	checkCurrent(t, 103, l("0"), got-10, got, got+3)
	checkCurrent(t, 103, l("90"), got-10, got, got+3)
	checkCurrent(t, 104, l("91"), got-10, got, got+3)
	// Both at once, not one behind the other.
	checkCurrent(t, 100, l("50"), got, got, got)
	checkCurrent(t, 150, l("150"), got, got, got)
	checkCurrent(t, 150, l("150"), got+30, got, got)
	// A date that is later than the response doesn't lessen the age.
	checkCurrent(t, 50, l("50"), noon-60, noon-60, noon-60)
	checkCurrent(t, 0, l("0"), noon-60, noon-60, noon-60)
}

func TestGreatAges(t *testing.T) {
	checkCurrent(t, api.Top-1, nil, 0, 0, api.Top-1)
	checkCurrent(t, api.Top, nil, 0, 0, api.Top)
	checkCurrent(t, api.Top, nil, 0, 0, api.Top+1)
	checkCurrent(t, api.Top, nil, 0, 0, end)
	checkCurrent(t, api.Top, nil, 0, end, end)
	checkCurrent(t, api.Top, nil, 1, 1<<31, 1<<31+1)
	checkCurrent(t, api.Top-1, nil, 1, 1<<31, 1<<31)
	checkCurrent(t, api.Top-1, fields(told("2147483647")), 5, 5, 5)
	checkCurrent(t, api.Top, fields(told("2147483647")), 5, 5, 6)
	checkCurrent(t, api.Top, fields(told("2147483647")), 4, 5, 5)
	checkCurrent(t, api.Top, fields(told("2147483648")), 5, 5, 5)
	for _, text := range []string{"2147483648", "2147483649", "99999999999", "18446744073709551616"} {
		checkCurrent(t, api.Top, fields(told(text)), 0, 0, 0)
		checkCurrent(t, api.Top, fields(told(text)), 0, end, end)
		checkCurrent(t, api.Top, fields(told(text)), 0, 5, math.MaxInt64)
	}
	zero := fields(dated("Thu, 01 Jan 1970 00:00:00 GMT"))
	checkCurrent(t, api.Top-1, zero, api.Top-1, api.Top-1, api.Top-1)
	checkCurrent(t, api.Top, zero, api.Top, api.Top, api.Top)
	checkCurrent(t, api.Top, zero, end, end, end)
	last := fields(dated("Fri, 31 Dec 9999 23:59:59 GMT"))
	checkCurrent(t, 0, last, lastDate-1, lastDate-1, lastDate-1)
	checkCurrent(t, 1, last, lastDate+1, lastDate+1, lastDate+1)
	checkCurrent(t, api.Top, last, end, end, end)
}

func TestTimesBeyondEitherEnd(t *testing.T) {
	for _, early := range []int64{-1, -5, -end, math.MinInt64} {
		checkCurrent(t, 0, nil, early, early, early)
		checkCurrent(t, 5, nil, early, early, 5)
		checkCurrent(t, 5, nil, early, 5, early)
		checkCurrent(t, 0, nil, 5, early, early)
		checkCurrent(t, 5, nil, 5, early, 5)
		checkCurrent(t, 7, nil, early, 4, 7)
		checkCurrent(t, 0, fields(dated(noonText)), early, early, early)
		checkCurrent(t, 50, fields(told("50")), early, early, early)
	}
	for _, late := range []int64{end + 1, end + 5, 2 * end, math.MaxInt64} {
		checkCurrent(t, 0, nil, late, late, late)
		checkCurrent(t, 5, nil, end-5, late, late)
		checkCurrent(t, 5, nil, late, end-5, late)
		checkCurrent(t, 0, nil, late, late, end-5)
		checkCurrent(t, 7, nil, end-7, end-3, late)
		checkCurrent(t, api.Top, fields(dated(noonText)), late, late, late)
		checkCurrent(t, 50, fields(told("50")), late, late, late)
		checkCurrent(t, 50, fields(told("50")), end, late, end)
		checkCurrent(t, 50, fields(told("50")), late, end, late)
	}
	checkCurrent(t, api.Top, nil, math.MinInt64, math.MaxInt64, math.MinInt64)
	checkCurrent(t, api.Top, nil, math.MaxInt64, math.MinInt64, math.MaxInt64)
	checkCurrent(t, 0, nil, math.MaxInt64, math.MinInt64, math.MinInt64)
}

func responses() [][]api.Field {
	return [][]api.Field{
		nil,
		fields(told("5")),
		fields(told("2147483647")),
		fields(told("99999999999")),
		fields(told("x"), dated("x")),
		fields(dated("Thu, 01 Jan 1970 00:00:10 GMT")),
		fields(dated("Thu, 01 Jan 1970 00:00:10 GMT"), told("8")),
		fields(dated(noonText)),
		fields(told("3"), dated("Sun Nov  6 11:59:59 1994")),
		fields(dated("Fri, 31 Dec 9999 23:59:59 GMT"), told("0")),
		fields(dated(noonText), dated(noonText), told("5"), told("5")),
	}
}

func TestCurrentByWords(t *testing.T) {
	for _, l := range responses() {
		eachMoments(func(asked, got, now int64) {
			checkCurrent(t, currentByWords(l, asked, got, now), l, asked, got, now)
		})
	}
	for _, asked := range edges() {
		for _, got := range edges() {
			for _, now := range edges() {
				checkCurrent(t, currentByWords(nil, asked, got, now), nil, asked, got, now)
			}
		}
	}
	for seconds := range 12 {
		l := fields(told(strconv.Itoa(seconds)), dated("Thu, 01 Jan 1970 00:00:10 GMT"))
		for asked := int64(-2); asked < 24; asked++ {
			for got := int64(-2); got < 24; got++ {
				for now := int64(-2); now < 24; now++ {
					checkCurrent(t, currentByWords(l, asked, got, now), l, asked, got, now)
				}
			}
		}
	}
}

// P13.3: the theorem.

// moments are times about those of the responses, in their order.
func moments() []int64 {
	return []int64{math.MinInt64, -5, -1, 0, 1, 4, 9, 10, 11, 30, noon - 2, noon - 1, noon, noon + 1, noon + 20, noon + api.Top - 1, noon + api.Top, lastDate, end - 3, end - 1, end, end + 1, math.MaxInt64}
}

func eachMoments(f func(asked, got, now int64)) {
	for _, asked := range moments() {
		for _, got := range moments() {
			for _, now := range moments() {
				f(asked, got, now)
			}
		}
	}
}

func TestLaterAResponseIsNotYounger(t *testing.T) {
	for _, l := range responses() {
		eachMoments(func(asked, got, now int64) {
			young := age.Current(l, asked, got, now)
			if young < 0 || young > api.Top {
				t.Errorf("Current(%s, %d, %d, %d) = %d", brief(l), asked, got, now, young)
			}
			for _, later := range moments() {
				if later < now {
					continue
				}
				old := age.Current(l, asked, got, later)
				if most := intervalByWords(now, later).Int64(); old < young || int64(old-young) > most {
					t.Errorf("Current(%s, %d, %d, %d) = %d; and at %d %d", brief(l), asked, got, now, young, later, old)
				}
			}
		})
	}
}

func TestAGreaterAgeFieldDoesNotMakeYounger(t *testing.T) {
	for _, response := range responses() {
		response = head.Without(response, "age")
		eachMoments(func(asked, got, now int64) {
			young := age.Current(response, asked, got, now)
			for _, text := range []string{"0", "1", "5", "100", "2147483647", "2147483648", "2147483649", "99999999999999999999"} {
				old := age.Current(head.With(response, "age", text), asked, got, now)
				if old < young {
					t.Errorf("Current(%s, %d, %d, %d) = %d with the age %s; less than %d", brief(response), asked, got, now, old, text, young)
				}
				young = old
			}
		})
	}
}

func TestALongerRequestDoesNotMakeYounger(t *testing.T) {
	for _, l := range responses() {
		eachMoments(func(asked, got, now int64) {
			young := age.Current(l, asked, got, now)
			for _, other := range moments() {
				if other < asked { // it began earlier
					if old := age.Current(l, other, got, now); old < young {
						t.Errorf("Current(%s, %d, %d, %d) = %d; less than %d of one from %d", brief(l), other, got, now, old, young, asked)
					}
				}
				if asked <= got && got < other { // it ended later
					if old := age.Current(l, asked, other, now); old < young {
						t.Errorf("Current(%s, %d, %d, %d) = %d; less than %d of one to %d", brief(l), asked, other, now, old, young, got)
					}
				}
			}
		})
	}
}

// R4 and R5: a result depends on the arguments alone, also for several goroutines at the same time.

func TestSeveralGoroutines(t *testing.T) {
	l := fields(told("50"), dated(noonText))
	var group sync.WaitGroup
	for range 8 {
		group.Go(func() {
			for n := range int64(500) {
				checkCurrent(t, int(60+n), l, noon, noon+10, noon+10+n)
				checkTold(t, 50, l...)
				checkDate(t, noon, l, n)
				checkDate(t, n, nil, n)
				checkSum(t, int(n+1), n, 1)
				checkClamp(t, n, n)
			}
		})
	}
	group.Wait()
}
