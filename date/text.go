package date

import "strings"

// text is what is left to read. Once something is wrong, it stays wrong, and what is read means nothing.
type text struct {
	rest  string
	wrong bool
}

// skip reads s.
func (t *text) skip(s string) {
	rest, is := strings.CutPrefix(t.rest, s)
	if !is {
		t.wrong = true
		return
	}
	t.rest = rest
}

// number reads a number with that many digits.
func (t *text) number(digits int) int {
	if len(t.rest) < digits {
		t.wrong = true
		return 0
	}
	n := 0
	for i := range digits {
		c := t.rest[i]
		if c < '0' || '9' < c {
			t.wrong = true
			return 0
		}
		n = 10*n + int(c-'0')
	}
	t.rest = t.rest[digits:]
	return n
}

// spacedDay reads a day of two digits, or of a space and one digit.
func (t *text) spacedDay() int {
	if strings.HasPrefix(t.rest, " ") {
		t.skip(" ")
		return t.number(1)
	}
	if strings.HasPrefix(t.rest, "0") {
		t.wrong = true
	}
	return t.number(2)
}

// clock reads a time, as seconds.
func (t *text) clock() int {
	hours := t.upTo(23)
	t.skip(":")
	minutes := t.upTo(59)
	t.skip(":")
	return hours*hourSeconds + minutes*minuteSeconds + t.upTo(59)
}

// upTo reads a number of two digits that may not be greater than most.
func (t *text) upTo(most int) int {
	n := t.number(2)
	if n > most {
		t.wrong = true
	}
	return n
}

// weekday reads a weekday by its name.
func (t *text) weekday(name func(weekday int) string) int {
	return t.named(0, len(weekdays)-1, name)
}

// month reads a month by its name.
func (t *text) month() int { return t.named(1, len(months), monthName) }

// named reads the name of a number from first to last.
func (t *text) named(first, last int, name func(n int) string) int {
	for n := first; n <= last; n++ {
		if strings.HasPrefix(t.rest, name(n)) {
			t.skip(name(n))
			return n
		}
	}
	t.wrong = true
	return 0
}
