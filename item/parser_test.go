package item_test

import (
	"regexp"
	"slices"
	"strconv"
	"strings"
	"testing"

	"scullery/api"
	"scullery/bare"
	"scullery/item"
)

// paramForm is a parameter up to its value, as the document says it.
var paramForm = regexp.MustCompile(`^; *([a-z*][-a-z0-9_.*]*)(=?)`)

// paramsByForm is Params, made of paramForm and bare.Read.
func paramsByForm(s string) ([]item.Param, int, bool) {
	var l []item.Param
	rest := s
	for strings.HasPrefix(rest, ";") {
		m := paramForm.FindStringSubmatch(rest)
		if m == nil {
			return nil, 0, false
		}
		rest = rest[len(m[0]):]
		value := boolean(1)
		if m[2] == "=" {
			b, n, e := bare.Read(rest)
			if e != api.OK {
				return nil, 0, false
			}
			value, rest = b, rest[n:]
		}
		place := slices.IndexFunc(l, func(p item.Param) bool { return p.Key == m[1] })
		if place < 0 {
			l = append(l, param(m[1], value))
		} else {
			l[place].Value = value
		}
	}
	return l, len(s) - len(rest), true
}

func checkParams(t *testing.T, s string, want []item.Param, length int) {
	t.Helper()
	if l, n, e := item.Params(s); !slices.Equal(l, want) || n != length || e != api.OK {
		t.Errorf("Params(%s) = %s, %d, %d; not %s, %d", brief(s), brief(l), n, e, brief(want), length)
	}
}

func checkParamsRefused(t *testing.T, texts ...string) {
	t.Helper()
	for _, s := range texts {
		if l, n, e := item.Params(s); len(l) != 0 || n != 0 || e != api.ErrForm {
			t.Errorf("Params(%s) = %s, %d, %d", brief(s), brief(l), n, e)
		}
		checkReadRefused(t, "1"+s, "a"+s)
	}
}

func checkRead(t *testing.T, s string, want item.Item, length int) {
	t.Helper()
	if x, n, e := item.Read(s); !equal(x, want) || n != length || e != api.OK {
		t.Errorf("Read(%s) = %s, %d, %d; not %s, %d", brief(s), brief(x), n, e, brief(want), length)
	}
}

func checkReadRefused(t *testing.T, texts ...string) {
	t.Helper()
	for _, s := range texts {
		if x, n, e := item.Read(s); !equal(x, item.Item{}) || n != 0 || e != api.ErrForm {
			t.Errorf("Read(%s) = %s, %d, %d", brief(s), brief(x), n, e)
		}
		checkParseRefused(t, s, " "+s)
	}
}

func checkParse(t *testing.T, s string, want item.Item) {
	t.Helper()
	if x, e := item.Parse(s); !equal(x, want) || e != api.OK {
		t.Errorf("Parse(%s) = %s, %d; not %s", brief(s), brief(x), e, brief(want))
	}
}

func checkParseRefused(t *testing.T, texts ...string) {
	t.Helper()
	for _, s := range texts {
		if x, e := item.Parse(s); !equal(x, item.Item{}) || e != api.ErrForm {
			t.Errorf("Parse(%s) = %s, %d", brief(s), brief(x), e)
		}
	}
}

// P3.2: parameters.

func TestParams(t *testing.T) {
	yes, one := boolean(1), integer(1)
	for s, want := range map[string][]item.Param{
		"":        nil,
		";a":      list(param("a", yes)),
		";a=1":    list(param("a", one)),
		";a=?1":   list(param("a", yes)),
		";a=?0":   list(param("a", boolean(0))),
		";a;b":    list(param("a", yes), param("b", yes)),
		";b;a":    list(param("b", yes), param("a", yes)),
		";a=1;b":  list(param("a", one), param("b", yes)),
		";a;b=1":  list(param("a", yes), param("b", one)),
		";*":      list(param("*", yes)),
		";*-_.9a": list(param("*-_.9a", yes)),
		";a=a":    list(param("a", token("a"))),
		";a=*":    list(param("a", token("*"))),
		";a=A:/b": list(param("a", token("A:/b"))),
		";a=1.50": list(param("a", decimal(1500))),
		";a=-1":   list(param("a", integer(-1))),
		// What ends a parameter is no part of its value, unless a value holds it.
		`;a="; b=1"`:         list(param("a", quoted("; b=1"))),
		`;a="\";\\";b`:       list(param("a", quoted(`";\`)), param("b", yes)),
		";a=:aGk=:;b=:YWJj:": list(param("a", binary("hi")), param("b", binary("abc"))),
		";a=::;b":            list(param("a", binary("")), param("b", yes)),
		// Spaces behind semicolons.
		"; a":          list(param("a", yes)),
		";     a=1":    list(param("a", one)),
		"; a;  b;   c": list(param("a", yes), param("b", yes), param("c", yes)),
		"; a=1; a":     list(param("a", yes)),
	} {
		checkParams(t, s, want, len(s))
		checkRead(t, "tok"+s, item.Item{Value: token("tok"), Params: want}, 3+len(s))
		checkParse(t, "  tok"+s+" ", item.Item{Value: token("tok"), Params: want})
	}
}

func TestParamsEndAtWhatIsNoSemicolon(t *testing.T) {
	a := list(param("a", boolean(1)))
	for _, behind := range []string{" ", " ;b", "\t", "\t;b", ",", ", b", ")", "(", "A", "/", ":", "\"", "?1", "\x00", "\x80", "\xff", "\u00e9", "!", "+"} {
		checkParams(t, ";a"+behind, a, 2)
		checkParams(t, behind, nil, 0)
		checkRead(t, "1;a"+behind, with(integer(1), a...), 3)
	}
	b := list(param("a", integer(1)))
	for _, behind := range []string{" ", " ;b", ",", ")", "a", "A", "=", "=1", "?", "-", "\"", "\x00", "\xff"} {
		checkParams(t, ";a=1"+behind, b, 4)
	}
	checkParams(t, "x;a", nil, 0)
	checkParams(t, "=1", nil, 0)
	checkParams(t, "a=1", nil, 0)
	checkParams(t, ";a=?01", list(param("a", boolean(0))), 5)
	checkParams(t, ";a=b=c", list(param("a", token("b"))), 4)
}

func TestParamsWhoseKeysComeAgain(t *testing.T) {
	yes, one, two, three := boolean(1), integer(1), integer(2), integer(3)
	for s, want := range map[string][]item.Param{
		";a;a":                      list(param("a", yes)),
		";a=1;a=2":                  list(param("a", two)),
		";a=1;a":                    list(param("a", yes)),
		";a;a=1":                    list(param("a", one)),
		";a=1;b=2;a=3":              list(param("a", three), param("b", two)),
		";b=1;a=2;a=3":              list(param("b", one), param("a", three)),
		";a=1;b=2;c=3;b":            list(param("a", one), param("b", yes), param("c", three)),
		";a=1;b=2;a=3;b=1;c":        list(param("a", three), param("b", one), param("c", yes)),
		";a=1;b=2;c=3;c=1;b=3;a=2":  list(param("a", two), param("b", three), param("c", one)),
		";a;aa;a=2;*=1;aa=3":        list(param("a", two), param("aa", three), param("*", one)),
		";a=1;a=\"x\";a=:aGk=:;a=t": list(param("a", token("t"))),
		";a=1;a=2;a=3;a=?0":         list(param("a", boolean(0))),
	} {
		checkParams(t, s, want, len(s))
		checkRead(t, "1"+s, with(one, want...), 1+len(s))
	}
	// Wrong even where a later value would replace it.
	checkParamsRefused(t, ";a=;a=1", ";a=1.;a", ";a=1;a=", ";a=1;a=?2")
}

func TestParamsThatAreNone(t *testing.T) {
	checkParamsRefused(t, ";", "; ", ";  ", ";;", ";;a", ";a;", ";a; ", ";a=1;", ";a=1; ", ";a;;b", "; ;a", ";a; ;b")
	checkParamsRefused(t, ";A", ";1", ";-a", ";_", ";.", ";=1", ";=", ";,", ";\"a\"", ";?1", ";:a:", ";\ta", "; \ta", ";\x00", ";\x80", ";\u00e9", ";a;B", ";a=1;Q=1")
	checkParamsRefused(t, ";a=", ";a=;b", ";a= 1", ";a= ", ";a=\t1", ";a==1", ";a=?", ";a=?2", ";a=?t", ";a=-", ";a=1.", ";a=.5", ";a=\"", ";a=\"b", ";a=\"\\n\"", ";a=:", ";a=:a:", ";a=(1)", ";a=,", ";a=@", ";a=\x00", ";a=\xff", ";b;a=")
	checkParamsRefused(t, ";a=1234567890123456", ";a=1234567890123.5", ";a=1.2345", ";a=--1")
}

func TestParamsOfEachByteBehindASemicolon(t *testing.T) {
	for c := range 256 {
		s := ";" + oneByte(c) + "b"
		switch {
		case c == ' ':
			checkParams(t, s, list(param("b", boolean(1))), 3)
		case within(keyBegins, byte(c)):
			checkParams(t, s, list(param(s[1:], boolean(1))), 3)
		default:
			checkParamsRefused(t, s)
		}
	}
}

func TestParamsOfEachByteBehindAKey(t *testing.T) {
	for c := range 256 {
		s := ";a" + oneByte(c) + "1"
		switch {
		case c == '=':
			checkParams(t, s, list(param("a", integer(1))), 4)
		case c == ';':
			checkParamsRefused(t, s)
		case within(keyBytes, byte(c)):
			checkParams(t, s, list(param(s[1:], boolean(1))), 4)
		default:
			checkParams(t, s, list(param("a", boolean(1))), 2)
		}
	}
}

func TestParamsOfAllShortTexts(t *testing.T) {
	taken, refused := 0, 0
	eachText(";a=b 1?A", 7, func(s string) {
		if len(s) > 0 && s[0] != ';' {
			return
		}
		want, length, is := paramsByForm(s)
		wantErr := api.OK
		if !is {
			wantErr = api.ErrForm
			refused++
		} else {
			taken++
		}
		if l, n, e := item.Params(s); !slices.Equal(l, want) || n != length || e != wantErr {
			t.Errorf("Params(%q) = %+v, %d, %d; not %+v, %d, %d", s, l, n, e, want, length, wantErr)
		}
	})
	if taken == 0 || refused == 0 {
		t.Error("one side only:", taken, refused)
	}
}

// P3.2: items.

func TestRead(t *testing.T) {
	a := param("a", boolean(1))
	for s, value := range map[string]api.Bare{
		"5": integer(5), "-0": integer(0), "1.50": decimal(1500), `"a;b"`: quoted("a;b"), `"\""`: quoted(`"`), "*": token("*"), "a:b/c": token("a:b/c"), ":aGk=:": binary("hi"), "::": binary(""), "?0": boolean(0), "?1": boolean(1),
	} {
		checkRead(t, s, with(value), len(s))
		checkRead(t, s+";a", with(value, a), len(s)+2)
		checkRead(t, s+"; a=1;b;a", with(value, a, param("b", boolean(1))), len(s)+9)
		for _, behind := range []string{" ", " ;a", ",b", ")", "\t", "=1", "(", "\x00", "\xff"} {
			checkRead(t, s+behind, with(value), len(s))
			checkRead(t, s+";b=2;a=?1"+behind, with(value, param("b", integer(2)), a), len(s)+9)
		}
		checkReadRefused(t, s+";", s+";A", s+";a=", s+";a;", s+"; ")
	}
	checkReadRefused(t, "", " ", "\t5", ";a", "=", "(1)", ",", "?", "?2", "-", "1.", "\"a", ":a", ":a:", "+1", "\x00", "\xff", "\u00e9", "?;a", "-;a", ";", "1234567890123456;a")
	checkReadRefused(t, "?2;a", "1.;", "\"a;b")
	// Parse alone takes spaces at the beginning.
	for _, s := range []string{" 5", "  a;b"} {
		if x, n, e := item.Read(s); !equal(x, item.Item{}) || n != 0 || e != api.ErrForm {
			t.Errorf("Read(%q) = %+v, %d, %d", s, x, n, e)
		}
	}
}

func TestParse(t *testing.T) {
	yes := boolean(1)
	// The document's example.
	checkParse(t, "5;a;b=?0;a=2", with(integer(5), param("a", integer(2)), param("b", boolean(0))))
	checkParse(t, "5", with(integer(5)))
	checkParse(t, "?1;a=?1", with(yes, param("a", yes)))
	checkParse(t, "text/html; q=0.5;level=1", with(token("text/html"), param("q", decimal(500)), param("level", integer(1))))
	for _, ahead := range []string{"", " ", "     "} {
		for _, behind := range []string{"", " ", "     "} {
			checkParse(t, ahead+"5"+behind, with(integer(5)))
			checkParse(t, ahead+"a;b"+behind, with(token("a"), param("b", yes)))
			checkParse(t, ahead+"a;  b=1"+behind, with(token("a"), param("b", integer(1))))
			checkParse(t, ahead+`" a "`+behind, with(quoted(" a ")))
			checkParse(t, ahead+`a;b=" "`+behind, with(token("a"), param("b", quoted(" "))))
			checkParseRefused(t, ahead+behind, ahead+"a;"+behind, ahead+"a;b="+behind, ahead+`"a`+behind, ahead+`"`+behind, ahead+":"+behind, ahead+"a b"+behind, ahead+"a ;b"+behind)
		}
	}
}

func TestParseOfWhatFollows(t *testing.T) {
	for c := range 256 {
		behind := oneByte(c)
		if c != ' ' {
			checkParseRefused(t, "?1"+behind, "5 "+behind, "?0;a=?1"+behind, "\"a\""+behind+" ", behind+" ?1")
		}
		if !within(keyBytes+" ", byte(c)) {
			checkParseRefused(t, "?1;a"+behind)
		}
	}
	checkParseRefused(t, "a,b", "a b", "a, b", "a;b c", "a;b ,c", "a ;q", "a;q=1\t", "\ta", "a\t", "a\n", "\na", "a\r\n", "5 5", "5;a 5", "5;a=1 ;b", "a;b=1,", "\"a\"\"b\"", "?1?1", "(a)", "a=1", "a;b=c=d", "::a", "\u00a0a", "a\u3000")
}

func TestLongTexts(t *testing.T) {
	spaces := strings.Repeat(" ", many)
	checkParse(t, spaces+"5;"+spaces+"a"+spaces, with(integer(5), param("a", boolean(1))))
	checkParse(t, "5"+strings.Repeat(";a=1", many), with(integer(5), param("a", integer(1))))
	checkParseRefused(t, spaces, strings.Repeat(";", many), "5;"+spaces+";a", "5"+strings.Repeat(";a", many)+";", "5"+strings.Repeat(";a=", many))
	key := strings.Repeat("a", many)
	checkParams(t, ";"+key+"=1;"+key, list(param(key, boolean(1))), 2*many+4)
}

func TestManyParams(t *testing.T) {
	var text strings.Builder
	var want []item.Param
	for i := range many {
		key := "k" + strconv.Itoa(i)
		text.WriteString(";" + key + "=" + strconv.Itoa(i))
		want = append(want, param(key, integer(int64(i))))
	}
	s := text.String()
	checkParams(t, s, want, len(s))
	want[many/2].Value = boolean(1)
	again := ";k" + strconv.Itoa(many/2)
	checkParams(t, s+again, want, len(s+again))
	checkParamsRefused(t, s+";")
}

// P3.4: the theorem.

func checkPrintedIsParsed(t *testing.T, x item.Item) {
	t.Helper()
	s, e := item.Print(x)
	if e != api.OK {
		t.Errorf("Print(%+v): error %d", x, e)
		return
	}
	checkParse(t, s, x)
	checkRead(t, s, x, len(s))
	params, e := item.PrintParams(x.Params)
	if e != api.OK || !strings.HasSuffix(s, params) {
		t.Errorf("PrintParams(%+v) = %q, %d; the item is %q", x.Params, params, e, s)
	}
	checkParams(t, params, x.Params, len(params))
}

func validValues() []api.Bare {
	return []api.Bare{
		integer(0), integer(7), integer(-7), integer(limit - 1), integer(1 - limit), decimal(0), decimal(1), decimal(-50), decimal(1500), decimal(limit - 1),
		quoted(""), quoted(" "), quoted(` a;b="c" `), quoted(`\`), token("a"), token("*"), token("a:b/c"), token("A1"), binary(""), binary("\xff"), binary(";a=1"), boolean(0), boolean(1),
	}
}

func TestPrintedItemsAreParsed(t *testing.T) {
	keys := []string{"a", "*", "a1", "z-_.*9", "aa"}
	for _, x := range validValues() {
		checkPrintedIsParsed(t, with(x))
		for _, y := range validValues() {
			for _, z := range validValues() {
				checkPrintedIsParsed(t, with(x, param("a", y), param("b", z)))
			}
			for _, key := range keys {
				checkPrintedIsParsed(t, with(x, param(key, y)))
			}
			var all []item.Param
			for _, key := range keys {
				all = append(all, param(key, y))
			}
			checkPrintedIsParsed(t, with(x, all...))
		}
	}
}

func TestWhatIsParsedIsValidAndParsedAgain(t *testing.T) {
	parsed, refused, replaced := 0, 0, 0
	eachText(" ;a=b1?\"", 7, func(s string) {
		x, e := item.Parse(s)
		if e != api.OK {
			refused++
			if e != api.ErrForm || !equal(x, item.Item{}) {
				t.Errorf("Parse(%q) = %+v, %d", s, x, e)
			}
			return
		}
		parsed++
		if len(x.Params) < strings.Count(s, ";") && !strings.Contains(s, `"`) {
			replaced++
		}
		if !valid(x) {
			t.Errorf("Parse(%q) = %+v, which is not valid", s, x)
		}
		checkPrintedIsParsed(t, x)
	})
	if parsed == 0 || refused == 0 || replaced == 0 {
		t.Error("never seen:", parsed, refused, replaced)
	}
}

func TestParseOfAllShortTexts(t *testing.T) {
	eachText(" ;a=1\t", 7, func(s string) {
		trimmed := strings.Trim(s, " ")
		value, n, e := bare.Read(trimmed)
		params, more, is := paramsByForm(trimmed[n:])
		if e != api.OK || !is || n+more < len(trimmed) {
			checkParseRefused(t, s)
			return
		}
		checkParse(t, s, with(value, params...))
	})
}

// R3: an answer belongs to its caller.

func TestAnswersAreTheCallers(t *testing.T) {
	const s = "5;a=1;b=2;a=3"
	want := with(integer(5), param("a", integer(3)), param("b", integer(2)))
	first, _ := item.Parse(s)
	second, _ := item.Parse(s)
	for i := range first.Params {
		first.Params[i] = param("changed", integer(9))
	}
	_ = append(first.Params, param("more", integer(9)))
	if !equal(second, want) {
		t.Errorf("another answer was changed: %+v", second)
	}
	checkParse(t, s, want)
}
