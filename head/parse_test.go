package head_test

import (
	"regexp"
	"slices"
	"strings"
	"testing"

	"scullery/api"
	"scullery/head"
)

// fieldForm is the line of a field, and valueForm its value, as the document says them.
var (
	fieldForm = regexp.MustCompile(`^([A-Za-z0-9!#$%&'*+.^_|~` + "`" + `-]+):[\t ]*(|[^\x00-\x20\x7f]|[^\x00-\x20\x7f][^\x00-\x08\x0a-\x1f\x7f]*[^\x00-\x20\x7f])[\t ]*$`)
	valueForm = regexp.MustCompile(`^(|[^\x00-\x20\x7f]|[^\x00-\x20\x7f][^\x00-\x08\x0a-\x1f\x7f]*[^\x00-\x20\x7f])$`)
)

// parseByForm is Parse, made of fieldForm and of lines with their ends.
func parseByForm(s string) ([]api.Field, int, api.Errno) {
	var l []api.Field
	length := 0
	for line := range strings.SplitAfterSeq(s, "\n") {
		parts := fieldForm.FindStringSubmatch(strings.TrimSuffix(line, "\r\n"))
		switch {
		case !strings.HasSuffix(line, "\n") && len(line) > 2002:
			return nil, 0, api.ErrMany
		case !strings.HasSuffix(line, "\n"):
			return nil, 0, api.ErrShort
		case !strings.HasSuffix(line, "\r\n"):
			return nil, 0, api.ErrForm
		case len(line) > 2002:
			return nil, 0, api.ErrMany
		case line == "\r\n":
			return l, length + 2, api.OK
		case len(l) == 64:
			return nil, 0, api.ErrMany
		case parts == nil:
			return nil, 0, api.ErrForm
		}
		l = append(l, field(strings.ToLower(parts[1]), parts[2]))
		length += len(line)
	}
	panic("a last line that has an end")
}

// checkByForm holds Parse against parseByForm, and reports whether s begins with fields.
func checkByForm(t *testing.T, s string) bool {
	want, length, err := parseByForm(s)
	if l, n, e := head.Parse(s); !slices.Equal(l, want) || n != length || e != err {
		t.Helper()
		t.Errorf("Parse(%s) = %s, %d, %d; not %s, %d, %d", brief(s), brief(l), n, e, brief(want), length, err)
	}
	return err == api.OK
}

func checkParse(t *testing.T, s string, want []api.Field, length int) {
	t.Helper()
	if l, n, e := head.Parse(s); !slices.Equal(l, want) || n != length || e != api.OK {
		t.Errorf("Parse(%s) = %s, %d, %d; not %s, %d", brief(s), brief(l), n, e, brief(want), length)
	}
	checkByForm(t, s)
}

func checkRefused(t *testing.T, want api.Errno, texts ...string) {
	t.Helper()
	for _, s := range texts {
		if l, n, e := head.Parse(s); len(l) != 0 || n != 0 || e != want {
			t.Errorf("Parse(%s) = %s, %d, %d; not %d", brief(s), brief(l), n, e, want)
		}
		checkByForm(t, s)
	}
}

// texts returns all texts of at most that many pieces, the empty one among them.
func texts(pieces []string, most int) []string {
	all := []string{""}
	last := all
	for range most {
		var longer []string
		for _, s := range last {
			for _, piece := range pieces {
				longer = append(longer, s+piece)
			}
		}
		all = append(all, longer...)
		last = longer
	}
	return all
}

func everyByte() []string {
	var every []string
	for c := range 256 {
		every = append(every, string([]byte{byte(c)}))
	}
	return every
}

// pairs returns all texts of at most two bytes.
func pairs() []string { return texts(everyByte(), 2) }

// P6.2: fields.

func TestParse(t *testing.T) {
	for s, want := range map[string][]api.Field{
		"\r\n":                      nil,
		"a: b\r\n\r\n":              fields("a", "b"),
		"a:b\r\n\r\n":               fields("a", "b"),
		"a:\r\n\r\n":                fields("a", ""),
		"a: \r\n\r\n":               fields("a", ""),
		"a: \t \t\r\n\r\n":          fields("a", ""),
		"a:  \tb \t c\t \r\n\r\n":   fields("a", "b \t c"),
		"a:b:c\r\n\r\n":             fields("a", "b:c"),
		"a: b: c:\r\n\r\n":          fields("a", "b: c:"),
		"a::\r\n\r\n":               fields("a", ":"),
		"a: :: \r\n\r\n":            fields("a", "::"),
		"a:\" b \"\r\n\r\n":         fields("a", "\" b \""),
		"Host: Example.COM\r\n\r\n": fields("host", "Example.COM"),
		"X-AZaz_09: V\r\n\r\n":      fields("x-azaz_09", "V"),
		"a: b\r\nA: c\r\na: b\r\nd: e\r\nA: \r\n\r\n":                     fields("a", "b", "a", "c", "a", "b", "d", "e", "a", ""),
		"a: \x80\xff caf\u00e9\u00a0\r\n\r\n":                             fields("a", "\x80\xff caf\u00e9\u00a0"),
		strings.ToUpper(tokenBytes) + ":" + tokenBytes + "\r\nz:\r\n\r\n": fields(tokenBytes, tokenBytes, "z", ""),
	} {
		checkParse(t, s, want, len(s))
		// What is behind the empty line isn't looked at.
		for _, behind := range []string{"\r", "\n", "\r\n", "\r\n\r\n", "b: c\r\n\r\n", "body", "\x00", " ", ":", s, strings.Repeat("x", 3000), strings.Repeat("x", 3000) + "\n"} {
			checkParse(t, s+behind, want, len(s))
		}
		// Whatever is cut off, it's too short.
		for i := range len(s) {
			checkRefused(t, api.ErrShort, s[:i])
		}
	}
}

func TestLinesThatAreNoFields(t *testing.T) {
	for _, line := range []string{
		// Without a colon.
		"a", "a b", "a=b", "a;b", " ", "\t", "  ", "\"", "GET / HTTP/1.1", "a\xef\xbc\x9ab", "\x00",
		// With a colon first.
		":", ": ", ": a", ":a", "::", "::a", ":a:b",
		// With blanks ahead of the colon, or of the name.
		"a :", "a : b", "a\t: b", "a  :b", " : b", "\t:", " a: b", "\ta: b", " a", " b: c ",
		// With a name that is no token.
		"a b: c", "a,b: c", "a;b: c", "a=b: c", "a/b: c", "\"a\": b", "a\\: b", "(a): b", "[a]: b", "{a}: b", "<a>: b", "a?: b", "a@b: c",
		"a\x00: b", "a\x7f: b", "a\x80: b", "caf\u00e9: b", "\u017f: b", "\u212a: b", "\xff: b", "\x00: b", "\ufeffa: b", "a\r: b", "\ra: b",
		// With a value that isn't text.
		"a: \x00", "a: b\x00", "a:\x00b", "a: \x01", "a: \x08", "a: \x0b", "a: \x0c", "a: \x1f", "a: \x7f", "a: b\x7fc", "a: b\rc", "a:\r", "a:\rb", "a: b\r", "a: \r b", "a: b \r", "\r", "\r\r",
	} {
		for _, ahead := range []string{"", "a: b\r\n", "a: b\r\nc: d\r\n", strings.Repeat("a: b\r\n", 63)} {
			checkRefused(t, api.ErrForm, ahead+line+"\r\n\r\n", ahead+line+"\r\n", ahead+line+"\r\na: b\r\n\r\n", ahead+line+"x\n\r\n")
		}
		checkRefused(t, api.ErrMany, strings.Repeat("a: b\r\n", 64)+line+"\r\n\r\n")
	}
	// Lines that are to be read together with the ones ahead of them.
	checkRefused(t, api.ErrForm, "a: b\r\n c\r\n\r\n", "a: b\r\n\tc\r\n\r\n", "a:\r\n b: c\r\n\r\n", "a: b,\r\nc\r\n\r\n")
}

func TestEndsOfLines(t *testing.T) {
	checkRefused(t, api.ErrForm, "\n", "\n\r\n", "\n\n", "\n\r", "\r\r\n", "\r\r\n\r\n", "a: b\n", "a: b\n\r\n", "a: b\n\n", "a: b\n\rc: d\r\n\r\n", "a: b\r\n\n", "a: b\r\n\n\r\n",
		"a: b\r\nc: d\n\r\n", "a: b\r\r\n\r\n", "a: b\r\r\n", "a: b\x00\n", "a: b\x0b\n\r\n", "a\n: b\r\n\r\n", "a:\n b\r\n\r\n", " \n\r\n", " \r\n\r\n", "a: b\r \n\r\n", "a: b\n\r\n\r\n", "\x00\n", strings.Repeat("\n", 3000))
	checkRefused(t, api.ErrShort, "", "\r", "\r\r", "a", "a:", "a: b", "a: b\r", "a: b\r\n", "a: b\r\n\r", "a: b\r\n\r\r", "a: b\r\nc: d\r\n", "\x00", "\r\x00", " ", ":", ": b", "a b", "a: b\r\n c", "a: b\r\rc: d\r\r")
}

// P6.2: the first error of the first line that has one.

func TestTheFirstErrorIsTold(t *testing.T) {
	full, long, much := strings.Repeat("a: b\r\n", 64), strings.Repeat("x", 2001), strings.Repeat("x", 2003)
	for _, c := range []struct {
		s string
		e api.Errno
	}{
		// Of one line.
		{long + "\n", api.ErrForm},
		{much + "\n", api.ErrForm},
		{long + "\r\n", api.ErrMany},
		{":" + long + "\r\n", api.ErrMany},
		{long + "\r\x00\n", api.ErrForm},
		{"\x00", api.ErrShort},
		{": b\n", api.ErrForm},
		{full + ": b\r\n", api.ErrMany},
		{full + ": b\n", api.ErrForm},
		{full + "a: b\r\n", api.ErrMany},
		{full + "a: b\n", api.ErrForm},
		{full + "a: b\r", api.ErrShort},
		{full + "a: b", api.ErrShort},
		{full + "x", api.ErrShort},
		{full + "\n", api.ErrForm},
		{full + "\r", api.ErrShort},
		{full, api.ErrShort},
		{full + long, api.ErrShort},
		{full + much, api.ErrMany},
		{full + long + "\r\n", api.ErrMany},
		{full + long + "\n", api.ErrForm},
		{full + "\r\n", api.OK},
		{full + "\r\na: b\r\n", api.OK},
		// Of two lines.
		{"a b\r\nc: d\n", api.ErrForm},
		{"a b\r\n" + much, api.ErrForm},
		{"a b\r\n" + long + "\r\n", api.ErrForm},
		{"a b\r\nc", api.ErrForm},
		{"a: b\n" + much, api.ErrForm},
		{"a: b\n" + long + "\r\n", api.ErrForm},
		{"a: b\nc: d", api.ErrForm},
		{long + "\r\n" + "a b\r\n", api.ErrMany},
		{long + "\r\n" + "a: b\n", api.ErrMany},
		{long + "\r\n" + "a: b", api.ErrMany},
		{full + "a: b\r\n" + ": b\r\n", api.ErrMany},
		{full + "a: b\r\n" + "\n", api.ErrMany},
		{full + "a: b\r\n" + "a", api.ErrMany},
		{full[6:] + "a b\r\n" + full, api.ErrForm},
		{full[6:] + "a: b\n" + full, api.ErrForm},
		{": b\r\n" + full, api.ErrForm},
		{full[:6] + ": b\r\n" + full, api.ErrForm},
		{full + full, api.ErrMany},
		{"a: b\r\n" + much, api.ErrMany},
		{"a: b\r\n" + long, api.ErrShort},
	} {
		if c.e == api.OK {
			checkByForm(t, c.s)
		} else {
			checkRefused(t, c.e, c.s)
		}
		if _, _, e := head.Parse(c.s); e != c.e {
			t.Errorf("Parse(...%s): %d, not %d", brief(c.s[max(0, len(c.s)-20):]), e, c.e)
		}
	}
}

// P6.2: as many fields, and as many bytes, as may be.

func TestNumbersOfParsedFields(t *testing.T) {
	for count := range 70 {
		for _, line := range []string{"a: b\r\n", "a:\r\n", "A:" + strings.Repeat(" ", 1998) + "\r\n"} {
			s := strings.Repeat(line, count)
			name, value, _ := strings.Cut(line, ":")
			want := slices.Repeat(fields(strings.ToLower(name), strings.TrimSpace(value)), count)
			if count <= 64 {
				checkParse(t, s+"\r\n", want, len(s)+2)
				checkParse(t, s+"\r\n"+s, want, len(s)+2)
				checkRefused(t, api.ErrShort, s, s+"\r")
				checkRefused(t, api.ErrForm, s+"\n")
			} else {
				checkRefused(t, api.ErrMany, s+"\r\n", s, s+"\n")
			}
		}
		s := textOf(numbered(count))
		if checkByForm(t, s) != (count <= 64) {
			t.Error("numbers of fields:", count)
		}
	}
}

func TestLinesOfAsManyBytesAsMayBe(t *testing.T) {
	const b = "bbbbbbbbbb"
	for length := 1990; length <= 2010; length++ {
		value := strings.Repeat("b", length-2)
		blanks := strings.Repeat(" ", length-3)
		for line, want := range map[string]api.Field{
			"a:" + value:                           field("a", value),
			"a: " + value[1:]:                      field("a", value[1:]),
			"a:" + value[:length-12] + " " + b[1:]: field("a", value[:length-12]+" "+b[1:]),
			value + "b:":                           field(value+"b", ""),
			value[1:] + ": c":                      field(value[1:], "c"),
			"a:" + blanks + "c":                    field("a", "c"),
			"a:c" + blanks:                         field("a", "c"),
			"a:" + blanks + "\t":                   field("a", ""),
			strings.ToUpper(value[2:]) + ":C: ":    field(value[2:], "C:"),
		} {
			if len(line) != length {
				t.Fatal("not a line of that length:", len(line), length)
			}
			for _, ahead := range []string{"", "c: d\r\n", strings.Repeat("c: d\r\n", 63)} {
				s := ahead + line + "\r\n"
				if length > 2000 {
					checkRefused(t, api.ErrMany, s, s+"\r\n", s+"x")
					continue
				}
				l, n, e := head.Parse(s + "\r\nx")
				if len(l) == 0 || l[len(l)-1] != want || n != len(s)+2 || e != api.OK {
					t.Errorf("Parse(%s) = %s, %d, %d", brief(s), brief(l), n, e)
				}
				checkByForm(t, s+"\r\nx")
				checkRefused(t, api.ErrShort, s, s+"x")
			}
		}
	}
}

func TestLinesWithoutAnEnd(t *testing.T) {
	for length := range 4100 {
		for _, ahead := range []string{"", "a: b\r\n"} {
			for _, c := range []string{"a", "\r", ":", " ", "\x00", "\xff"} {
				want := api.ErrShort
				if length > 2002 {
					want = api.ErrMany
				}
				if l, n, e := head.Parse(ahead + strings.Repeat(c, length)); len(l) != 0 || n != 0 || e != want {
					t.Errorf("%d times %q: %d", length, c, e)
				}
			}
		}
	}
	for _, line := range []string{"a: ", "a: b", "a:b\x00", "", "x"} {
		for length := 1999; length <= 2005; length++ {
			s := line + strings.Repeat("\r", length-len(line))
			want := api.ErrShort
			if length > 2002 {
				want = api.ErrMany
			}
			checkRefused(t, want, s, "a: b\r\nc: d\r\n"+s, strings.Repeat("a: b\r\n", 64)+s)
			// Behind the empty line, it may have any length.
			checkParse(t, "\r\n"+s, nil, 2)
		}
	}
	// An end that comes much later is an end.
	for _, length := range []int{2001, 2002, 2003, 5000, 1 << 16, many} {
		long := strings.Repeat("a", length)
		checkRefused(t, api.ErrForm, long+"\n", long+"\n\r\n")
		checkRefused(t, api.ErrMany, long+"\r\n", long+"\r\n\r\n", "a:"+long+"\r\n\r\n")
	}
}

// P6.2: all short texts, each byte, and each change of one place.

func TestAllShortTexts(t *testing.T) {
	parsed := 0
	for _, s := range texts([]string{"a", "B", ":", " ", "\t", "\r\n", "\r", "\n", "\x00"}, 5) {
		if checkByForm(t, s) {
			parsed++
		}
		if checkByForm(t, s+"\r\n\r\n") {
			parsed++
		}
	}
	for _, s := range texts([]string{"a:", ":", " ", "\x80", "\r\n", "\n"}, 6) {
		if checkByForm(t, s) {
			parsed++
		}
	}
	if parsed < 10000 {
		t.Error("too few of them are fields:", parsed)
	}
}

func TestEachPairOfBytes(t *testing.T) {
	for _, s := range pairs() {
		for _, text := range []string{s + ": b\r\n\r\n", "a:" + s + "\r\n\r\n", "a: b" + s + "c\r\n\r\n", "a" + s + "b\r\n\r\n", "a: b" + s} {
			checkByForm(t, text)
		}
	}
}

func TestEachByte(t *testing.T) {
	for _, c := range everyByte() {
		if c == "\r" || c == "\n" {
			continue
		}
		small := strings.ToLower(c)
		if strings.Contains(tokenBytes, small) {
			checkParse(t, c+":\r\n\r\n", fields(small, ""), 6)
			checkParse(t, "A"+c+"Z:b\r\n\r\n", fields("a"+small+"z", "b"), 9)
		} else if c != ":" {
			checkRefused(t, api.ErrForm, c+": b\r\n\r\n", "A"+c+"Z: b\r\n\r\n", "A"+c+": b\r\n\r\n", c+"Z: b\r\n\r\n")
		}
		switch {
		case c == " " || c == "\t":
			checkParse(t, "a:"+c+"b"+c+"c"+c+"\r\n\r\n", fields("a", "b"+c+"c"), 11)
		case c < " " || c == "\x7f":
			checkRefused(t, api.ErrForm, "a:"+c+"\r\n\r\n", "a: "+c+" \r\n\r\n", "a: b"+c+"\r\n\r\n", "a: "+c+"b\r\n\r\n", "a: b"+c+"b\r\n\r\n")
		default:
			checkParse(t, "a:"+c+"b"+c+"\r\n\r\n", fields("a", c+"b"+c), 9)
		}
	}
}

func TestFieldsWithOneChange(t *testing.T) {
	const sample = "Host: a.b\r\nx-1:\t\"c d\" \r\nVary:\r\nvary: , e\r\n\r\nbody"
	parsed, refused := 0, 0
	check := func(s string) {
		if checkByForm(t, s) {
			parsed++
		} else {
			refused++
		}
	}
	for i := range len(sample) {
		for _, c := range everyByte() {
			check(sample[:i] + c + sample[i+1:])
			check(sample[:i] + c + sample[i:])
		}
		for j := i + 1; j <= len(sample); j++ {
			check(sample[:i] + sample[j:])
			check(sample[:j] + sample[i:])
		}
	}
	if parsed < 1000 || refused < 1000 {
		t.Error("one side only:", parsed, refused)
	}
}

func TestLongTexts(t *testing.T) {
	body := strings.Repeat("a: b\r\n", many)
	checkParse(t, "a: b\r\n\r\n"+body, fields("a", "b"), 8)
	checkRefused(t, api.ErrMany, body, body+"\r\n", strings.Repeat("a", 10*many), strings.Repeat("\r", 10*many))
	checkRefused(t, api.ErrForm, strings.Repeat("\n", 10*many), strings.Repeat(":\r\n", many), strings.Repeat(" \r\n", many))
	checkParse(t, strings.Repeat("\r\n", 10*many), nil, 2)
}

// P6.4: the theorem.

func checkThereAndBack(t *testing.T, l []api.Field) {
	t.Helper()
	s, e := head.Print(l)
	if e != api.OK {
		t.Errorf("Print(%s): %d", brief(l), e)
	}
	checkParse(t, s, l, len(s))
	checkParse(t, s+"body", l, len(s))
	checkParse(t, s+"\r\n", l, len(s))
}

func TestParsingPrintedFields(t *testing.T) {
	for _, l := range [][]api.Field{
		nil, fields("a", ""), fields("a", "b", "a", "c"), fields("a", ":"), fields("a", ": b"), fields("a", "b  \t  c"), fields(tokenBytes, "\x80\xff\u00a0"),
		numbered(64), slices.Repeat(fields("a", ""), 64),
		fields("a", strings.Repeat("b", 1997)), fields(strings.Repeat("a", 1998), ""), fields(strings.Repeat("a", 1000), strings.Repeat("b", 998)),
		slices.Repeat(fields(strings.Repeat("a", 1000), strings.Repeat("b", 998)), 64),
	} {
		checkThereAndBack(t, l)
	}
	lists([]string{"a", "b", "c"}, 5, func(l []api.Field) { checkThereAndBack(t, l) })
	for _, s := range pairs() {
		for _, l := range [][]api.Field{fields(s, s), fields("a", s), fields(s, ""), fields("a", "b", s, s, "c", s)} {
			if head.Right(l) {
				checkThereAndBack(t, l)
			}
		}
	}
}

func TestPrintingParsedFields(t *testing.T) {
	count := 0
	for _, s := range texts([]string{"A", "b:", ":", " ", "\r\n", "\xff"}, 7) {
		l, n, e := head.Parse(s + "\r\n\r\n")
		if e != api.OK {
			continue
		}
		if !head.Right(l) || n > len(s)+4 {
			t.Fatalf("Parse(%q) = %q, %d", s, l, n)
		}
		count++
		checkThereAndBack(t, l)
	}
	if count < 1000 {
		t.Error("too few are fields:", count)
	}
}

// TestParsedFieldsThatAreNotValid has those that without a space behind the colon have one byte more than may be printed.
func TestParsedFieldsThatAreNotValid(t *testing.T) {
	s := "a:" + strings.Repeat("b", 1998) + "\r\n\r\n"
	l, n, e := head.Parse(s)
	if len(l) != 1 || n != len(s) || e != api.OK {
		t.Fatal(len(l), n, e)
	}
	checkWrong(t, l)
	l[0].Value = l[0].Value[1:]
	checkThereAndBack(t, l)
}
