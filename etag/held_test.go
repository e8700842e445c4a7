package etag_test

import (
	"slices"
	"strings"
	"testing"

	"scullery/api"
	"scullery/date"
	"scullery/etag"
	"scullery/head"
)

// The seconds of the dates that these tests have. All other texts of theirs are no dates.
const (
	noon      = 784123200 // Sun, 06 Nov 1994 12:00:00 GMT
	lastDate  = 253402300799
	noonText  = "Sun, 06 Nov 1994 12:00:00 GMT"
	aheadText = "Sun, 06 Nov 1994 11:59:59 GMT"
	afterText = "Sun, 06 Nov 1994 12:00:01 GMT"
)

func secondsOf(text string) (int64, bool) {
	seconds, is := map[string]int64{
		"Thu, 01 Jan 1970 00:00:00 GMT": 0, "Thursday, 01-Jan-70 00:00:00 GMT": 0, "Thu Jan  1 00:00:00 1970": 0,
		aheadText: noon - 1, "Sunday, 06-Nov-94 11:59:59 GMT": noon - 1, "Sun Nov  6 11:59:59 1994": noon - 1,
		noonText: noon, "Sunday, 06-Nov-94 12:00:00 GMT": noon, "Sun Nov  6 12:00:00 1994": noon,
		afterText: noon + 1, "Sunday, 06-Nov-94 12:00:01 GMT": noon + 1, "Sun Nov  6 12:00:01 1994": noon + 1,
		"Mon, 07 Nov 1994 00:00:00 GMT": noon + 43200, "Monday, 07-Nov-94 00:00:00 GMT": noon + 43200, "Mon Nov  7 00:00:00 1994": noon + 43200,
		"Fri, 31 Dec 9999 23:59:59 GMT": lastDate, "Fri Dec 31 23:59:59 9999": lastDate,
	}[text]
	return seconds, is
}

func dates() []string {
	return []string{
		"Thu, 01 Jan 1970 00:00:00 GMT", "Thursday, 01-Jan-70 00:00:00 GMT", "Thu Jan  1 00:00:00 1970",
		aheadText, "Sunday, 06-Nov-94 11:59:59 GMT", "Sun Nov  6 11:59:59 1994",
		noonText, "Sunday, 06-Nov-94 12:00:00 GMT", "Sun Nov  6 12:00:00 1994",
		afterText, "Sunday, 06-Nov-94 12:00:01 GMT", "Sun Nov  6 12:00:01 1994",
		"Mon, 07 Nov 1994 00:00:00 GMT", "Monday, 07-Nov-94 00:00:00 GMT", "Mon Nov  7 00:00:00 1994",
		"Fri, 31 Dec 9999 23:59:59 GMT", "Fri Dec 31 23:59:59 9999",
	}
}

func noDates() []string {
	return []string{
		"", " ", "0", "784123200", "x", "*", `"a"`, "Sun", "GMT", noonText + " ", " " + noonText, noonText + ", " + noonText, "Mon, 06 Nov 1994 12:00:00 GMT", "sun, 06 Nov 1994 12:00:00 GMT",
		"Sun, 6 Nov 1994 12:00:00 GMT", "Sun, 06 Nov 1994 12:00:00", "Sun, 06 Nov 1994 12:00:00 UTC", "Sun, 06 Nov 1994 12:00:60 GMT", "Sun, 06 Nov 1994 24:00:00 GMT", "Sun, 06 Nov 94 12:00:00 GMT", "Sunday, 06 Nov 1994 12:00:00 GMT", "Sun, 06-Nov-94 12:00:00 GMT", "Sun Nov 06 12:00:00 1994",
		"Wed, 31 Dec 1969 23:59:59 GMT", "Sat, 01 Jan 10000 00:00:00 GMT", "1994-11-06T12:00:00Z",
	}
}

func field(name, value string) api.Field { return api.Field{Name: name, Value: value} }

func match(value string) api.Field { return field("if-none-match", value) }

func since(value string) api.Field { return field("if-modified-since", value) }

func own(value string) api.Field { return field("etag", value) }

func modified(value string) api.Field { return field("last-modified", value) }

func fields(l ...api.Field) []api.Field { return l }

// others have names that tell nothing here, but values that would.
func others(value string) []api.Field {
	var l []api.Field
	for _, name := range []string{"", "x", "if-match", "if-unmodified-since", "if-range", "If-None-Match", "IF-NONE-MATCH", "if-none-matc", "if-none-matches", "if_none_match", " if-none-match", "If-Modified-Since", "if-modified-sinc", "if-modified-since ", "ETag", "Etag", "e-tag", "etags", "eta", "Last-Modified", "last-modifie", "lastmodified", "date", "expires"} {
		l = append(l, field(name, value))
	}
	return l
}

func checkHeld(t *testing.T, want bool, request, response []api.Field) {
	if etag.Held(request, response) != want {
		t.Helper()
		t.Errorf("Held(%s, %s) is not %t", brief(request), brief(response), want)
	}
}

// heldByWords is Held, made of listByForm, parseByForm and secondsOf.
func heldByWords(request, response []api.Field) bool {
	values := map[string][]string{}
	for _, f := range slices.Concat(request, response) {
		values[f.Name] = append(values[f.Name], f.Value)
	}
	value := func(name string) string { return strings.Join(values[name], ", ") }
	switch {
	case values["if-none-match"] != nil:
		tags, all, _ := listByForm(value("if-none-match"))
		tag, is := parseByForm(value("etag"))
		return all || is && slices.ContainsFunc(tags, func(listed etag.Tag) bool { return listed.Text == tag.Text })
	case values["if-modified-since"] != nil:
		latest, is := secondsOf(value("if-modified-since"))
		seconds, are := secondsOf(value("last-modified"))
		return is && are && seconds <= latest
	}
	return false
}

func TestTheDatesOfTheseTests(t *testing.T) {
	for _, text := range dates() {
		want, _ := secondsOf(text)
		if seconds, e := date.Parse(text); seconds != want || e != api.OK {
			t.Errorf("%s: %d, %d; not %d", text, seconds, e, want)
		}
	}
	for _, text := range noDates() {
		if _, e := date.Parse(text); e == api.OK {
			t.Errorf("%s: a date", text)
		}
	}
}

// P12.3: requests without either name.

func TestRequestsWithoutEitherName(t *testing.T) {
	responses := [][]api.Field{nil, fields(own(`"a"`)), fields(modified(noonText)), fields(own(`"a"`), modified(noonText)), fields(own(""), modified(""))}
	for _, response := range responses {
		checkHeld(t, false, nil, response)
		checkHeld(t, false, []api.Field{}, response)
		checkHeld(t, false, response, response)
		for _, value := range []string{`"a"`, "*", noonText, ""} {
			checkHeld(t, false, others(value), response)
			for _, other := range others(value) {
				checkHeld(t, false, fields(other), response)
			}
		}
	}
	// Nor does a response ask for itself.
	checkHeld(t, false, nil, fields(match("*"), since(noonText), own(`"a"`), modified(noonText)))
}

// P12.3: if-none-match.

func TestTheListOfAllHoldsAnyResponse(t *testing.T) {
	for _, value := range []string{"*", " *", "*\t", " \t* "} {
		for _, response := range [][]api.Field{nil, others("*"), fields(own(`"a"`)), fields(own(`W/"a"`)), fields(own("")), fields(own("a")), fields(own("*")), fields(modified(noonText)), fields(modified("x"))} {
			checkHeld(t, true, fields(match(value)), response)
			checkHeld(t, true, fields(match(value), since("x")), response)
			checkHeld(t, true, slices.Concat(others(""), fields(match(value))), response)
		}
	}
	// Twice it is no list.
	checkHeld(t, false, fields(match("*"), match("*")), fields(own(`"*"`)))
	checkHeld(t, false, fields(match("*"), match("")), fields(own(`"a"`)))
	checkHeld(t, false, fields(match("*"), match(`"a"`)), fields(own(`"a"`)))
	checkHeld(t, false, fields(match(`"a"`), match("*")), fields(own(`"a"`)))
}

func TestListsWithTheTagOfTheResponse(t *testing.T) {
	for _, value := range []string{`"a"`, `W/"a"`, ` "a" `, `,"a",`, `"a","b"`, `"b","a"`, `W/"b", W/"a", "c"`, `"b", "a", "a"`, `"b",,W/"a"`, `"a", ""`} {
		for _, tag := range []string{`"a"`, `W/"a"`} {
			checkHeld(t, true, fields(match(value)), fields(own(tag)))
			checkHeld(t, true, fields(match(value)), slices.Concat(others("x"), fields(own(tag), modified(noonText))))
			checkHeld(t, true, slices.Concat(others("x"), fields(match(value)), others("*")), fields(own(tag)))
		}
	}
	checkHeld(t, true, fields(match(`""`)), fields(own(`""`)))
	checkHeld(t, true, fields(match(`"a", W/""`)), fields(own(`""`)))
	checkHeld(t, true, fields(match(`"a,b"`)), fields(own(`W/"a,b"`)))
	checkHeld(t, true, fields(match(`"*"`)), fields(own(`"*"`)))
	checkHeld(t, true, fields(match("\"\xff\"")), fields(own("\"\xff\"")))
}

func TestListsWithoutTheTagOfTheResponse(t *testing.T) {
	for _, value := range []string{`"b"`, `W/"b"`, `"b","c"`, `"A"`, `"aa"`, `""`, `W/""`, `"W/a"`, `"*"`, `"b,a"`, `"a,"`, `"a,b"`, "\"a\xff\""} {
		for _, response := range [][]api.Field{nil, others(`"a"`), fields(own(`"a"`)), fields(own(`W/"a"`)), fields(own(`"x"`)), fields(own(`"a"`), modified(noonText))} {
			checkHeld(t, false, fields(match(value)), response)
			checkHeld(t, false, fields(match(value), since(noonText)), response)
		}
	}
}

func TestAnIfNoneMatchThatIsNoList(t *testing.T) {
	for _, value := range []string{"", " ", ",", ", ,", "a", "a*", "*,", `*, "a"`, `"a", *`, `"a`, `a"`, `"a" "a"`, `"a""b"`, `"a", a`, `a, "a"`, `w/"a"`, `W/`, `"a", W/W/"a"`, `"a";`, `'a'`, `"a", "b c"`} {
		for _, response := range [][]api.Field{nil, fields(own(`"a"`)), fields(own(`W/"a"`)), fields(own(`""`)), fields(own("")), fields(own("a")), fields(own("*")), fields(own(value)), fields(own(`"a"`), modified(noonText))} {
			checkHeld(t, false, fields(match(value)), response)
			// The other name doesn't count beside it.
			checkHeld(t, false, fields(match(value), since(noonText)), response)
			checkHeld(t, false, fields(since(afterText), match(value)), response)
		}
	}
}

func TestAnEtagThatIsNoTag(t *testing.T) {
	for _, tag := range []string{"", " ", "a", "*", `"a`, `a"`, `w/"a"`, `W/a`, `W/`, `W/W/"a"`, ` "a"`, `"a" `, `"a",`, `,"a"`, `"a","a"`, `"a b"`, `'a'`, `"a"b`, "\"\x7f\""} {
		for _, value := range []string{`"a"`, `W/"a"`, `"a", "b"`, `""`, `"", "a"`, "a", "", tag} {
			want := tag == "*" && value == tag
			checkHeld(t, want, fields(match(value)), fields(own(tag)))
			checkHeld(t, want, fields(match(value)), fields(own(tag), modified(noonText)))
		}
	}
	// A zero tag is not that of a response without one.
	checkHeld(t, false, fields(match(`""`)), nil)
	checkHeld(t, false, fields(match(`W/"", "a"`)), others(`"a"`))
}

func TestMoreThanOneOfATagsName(t *testing.T) {
	response := fields(own(`"a"`))
	// Lists are joined.
	checkHeld(t, true, fields(match(`"b"`), match(`"a"`)), response)
	checkHeld(t, true, fields(match(`"a"`), match(`"b"`)), response)
	checkHeld(t, true, fields(match(`"b"`), since("x"), match(`W/"a"`), match(`"c"`)), response)
	checkHeld(t, true, fields(match(""), match(`"a"`)), response)
	checkHeld(t, true, fields(match(`"a"`), match(" "), match(",")), response)
	checkHeld(t, false, fields(match(`"b"`), match(`"c"`)), response)
	checkHeld(t, false, fields(match(""), match("")), response)
	// One that is no list makes all of them none.
	checkHeld(t, false, fields(match(`"a"`), match("a")), response)
	checkHeld(t, false, fields(match("a"), match(`"a"`)), response)
	checkHeld(t, false, fields(match(`"a`), match(`"`)), response)
	// More than one tag of a response is none.
	for _, request := range [][]api.Field{fields(match(`"a"`)), fields(match(`"a", "b"`)), fields(match(`"a"`), match(`"a"`))} {
		checkHeld(t, true, request, response)
		checkHeld(t, false, request, fields(own(`"a"`), own(`"a"`)))
		checkHeld(t, false, request, fields(own(`"a"`), own(`"b"`)))
		checkHeld(t, false, request, fields(own(`"a"`), own("")))
		checkHeld(t, false, request, fields(own(""), own(`"a"`)))
	}
}

// P12.3: if-modified-since.

func TestDates(t *testing.T) {
	for _, latest := range dates() {
		for _, last := range dates() {
			n, _ := secondsOf(latest)
			m, _ := secondsOf(last)
			checkHeld(t, m <= n, fields(since(latest)), fields(modified(last)))
			checkHeld(t, m <= n, slices.Concat(others("x"), fields(since(latest))), slices.Concat(fields(own("x")), others("x"), fields(modified(last))))
			checkHeld(t, m <= n, fields(since(latest)), fields(modified(last), own(`"a"`), match(`"b"`)))
		}
		checkHeld(t, false, fields(since(latest)), nil)
		checkHeld(t, false, fields(since(latest)), others(latest))
		checkHeld(t, false, fields(since(latest)), fields(own(`"a"`)))
		for _, wrong := range noDates() {
			checkHeld(t, false, fields(since(latest)), fields(modified(wrong)))
			checkHeld(t, false, fields(since(wrong)), fields(modified(latest)))
		}
	}
	for _, wrong := range noDates() {
		checkHeld(t, false, fields(since(wrong)), nil)
		checkHeld(t, false, fields(since(wrong)), fields(modified(wrong)))
		checkHeld(t, false, fields(since(wrong)), fields(modified(noDates()[0])))
	}
}

func TestDatesNearEachOther(t *testing.T) {
	text := func(n int64) string {
		s, e := date.Print(n)
		if e != api.OK {
			t.Errorf("Print(%d): %d", n, e)
		}
		return s
	}
	for n := int64(1); n < lastDate-1; n = 2*n + 7 {
		checkHeld(t, true, fields(since(text(n))), fields(modified(text(n-1))))
		checkHeld(t, true, fields(since(text(n))), fields(modified(text(n))))
		checkHeld(t, false, fields(since(text(n))), fields(modified(text(n+1))))
	}
	checkHeld(t, true, fields(since(text(0))), fields(modified(text(0))))
	checkHeld(t, true, fields(since(text(lastDate))), fields(modified(text(lastDate))))
	checkHeld(t, false, fields(since(text(0))), fields(modified(text(lastDate))))
	checkHeld(t, true, fields(since(text(lastDate))), fields(modified(text(0))))
}

func TestMoreThanOneDateOfAName(t *testing.T) {
	checkHeld(t, false, fields(since(noonText), since(noonText)), fields(modified(noonText)))
	checkHeld(t, false, fields(since(noonText)), fields(modified(noonText), modified(noonText)))
	checkHeld(t, false, fields(since(noonText), since("")), fields(modified(noonText)))
	checkHeld(t, false, fields(since("x"), since(noonText)), fields(modified(noonText)))
	checkHeld(t, false, fields(since(noonText)), fields(modified(""), modified(noonText)))
	// Joined they may be a date.
	weekday, rest, _ := strings.Cut(noonText, ", ")
	checkHeld(t, true, fields(since(weekday), since(rest)), fields(modified(noonText)))
	checkHeld(t, true, fields(since(noonText)), fields(modified(weekday), modified(rest)))
	checkHeld(t, false, fields(since(rest), since(weekday)), fields(modified(noonText)))
}

// P12.3: both names.

func TestIfNoneMatchComesFirst(t *testing.T) {
	for _, latest := range append(dates(), noDates()...) {
		for _, last := range []string{noonText, afterText, "", "x"} {
			response := fields(own(`"a"`), modified(last))
			checkHeld(t, true, fields(match(`"a"`), since(latest)), response)
			checkHeld(t, true, fields(since(latest), match(`"a"`)), response)
			checkHeld(t, true, fields(since(latest), match("*")), response)
			checkHeld(t, false, fields(match(`"b"`), since(latest)), response)
			checkHeld(t, false, fields(since(latest), match(`"b"`)), response)
			checkHeld(t, false, fields(since(latest), match("")), response)
			checkHeld(t, false, fields(since(latest), match(`"a"`)), fields(modified(last)))
		}
	}
}

// P12.3, by the words.

func TestAllShortListsOfFields(t *testing.T) {
	requests := []api.Field{match(`"a"`), match(`W/"a", "b"`), match(`"c`), match("*"), match(""), since(noonText), since(aheadText), since("Sun"), since("06 Nov 1994 12:00:00 GMT"), field("x", "*")}
	responses := []api.Field{own(`"a"`), own(`W/"b"`), own(`"c, d"`), own(""), modified(noonText), modified("Sun Nov  6 11:59:59 1994"), modified("x"), field("x", `"a"`)}
	held := map[bool]int{}
	eachList(requests, 3, func(request []api.Field) {
		eachList(responses, 2, func(response []api.Field) {
			want := heldByWords(request, response)
			checkHeld(t, want, request, response)
			held[want]++
		})
	})
	if held[true] < 1000 || held[false] < 1000 {
		t.Error("too few of one kind:", held)
	}
}

func TestHeldByEachShortList(t *testing.T) {
	responses := [][]api.Field{nil, fields(own(`"a"`)), fields(own(`W/""`)), fields(own(`","`))}
	eachText([]string{`"a"`, `W/`, `"`, ",", " ", "*"}, 5, func(value string) {
		for _, response := range responses {
			checkHeld(t, heldByWords(fields(match(value)), response), fields(match(value)), response)
		}
	})
}

// P12.4: the theorem.

func TestAResponseIsHeldForItsOwnTag(t *testing.T) {
	eachTagOf([]string{"a", "W/", ",", "\\", "*", "!", "~", "\xff"}, 3, func(tag etag.Tag) {
		text, e := etag.Print(tag)
		if e != api.OK {
			t.Errorf("Print(%s): %d", brief(tag), e)
		}
		response := head.With(fields(modified(noonText), field("x", "")), "etag", text)
		checkHeld(t, true, head.With(nil, "if-none-match", text), response)
		checkHeld(t, true, head.With(fields(since("x")), "if-none-match", text), response)
		checkHeld(t, true, head.With(fields(match(`"b"`)), "if-none-match", text), response)
		tag.Weak = !tag.Weak
		text, _ = etag.Print(tag)
		checkHeld(t, true, head.With(nil, "if-none-match", text), response)
		tag.Text += "."
		text, _ = etag.Print(tag)
		checkHeld(t, false, head.With(nil, "if-none-match", text), response)
	})
}

// P0: many fields, and long ones.

func TestManyFields(t *testing.T) {
	request := slices.Repeat(fields(match(`"b", "c"`), since("x"), field("x", "*")), many)
	response := append(slices.Repeat(fields(field("x", `"b"`)), many), own(`"a"`))
	checkHeld(t, false, request, response)
	checkHeld(t, true, append(request, match(`"a"`)), response)
	checkHeld(t, false, append(request, match(`a`)), response)
	checkHeld(t, false, slices.Repeat(fields(since(noonText)), many), slices.Repeat(fields(modified(noonText)), many))
	long := `"` + strings.Repeat("a,", many) + `"`
	checkHeld(t, true, fields(match(long)), fields(own(long)))
	checkHeld(t, false, fields(match(long)), fields(own(long[:2]+long[3:])))
}

// R3: what is given stays as it is.

func TestArgumentsStay(t *testing.T) {
	request := append(others("*"), match(`"b"`), match(`W/"a"`), since(noonText))
	response := append(others("*"), own(`"a"`), modified(noonText))
	sameRequest, sameResponse := slices.Clone(request), slices.Clone(response)
	etag.Held(request, response)
	etag.Held(request[:len(request)-3], response)
	etag.Held(request[len(request)-1:], response)
	if !slices.Equal(request, sameRequest) || !slices.Equal(response, sameResponse) {
		t.Error("Held changed its fields:", request, response)
	}
}
