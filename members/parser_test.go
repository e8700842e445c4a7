package members_test

import (
	"regexp"
	"slices"
	"strconv"
	"strings"
	"testing"

	"scullery/api"
	"scullery/item"
	"scullery/members"
)

// The forms of the document, as regular expressions.
const (
	keyForm    = `[a-z*][-a-z0-9_.*]*`
	valueForm  = `(?:-?[0-9]{1,15}|-?[0-9]{1,12}\.[0-9]{1,3}|"(?:[ !#-\[\]-~]|\\["\\])*"|[A-Za-z*][-!#$%&'*+.^_` + "`" + `|~0-9A-Za-z:/]*|\?[01])`
	paramsForm = `(?:; *` + keyForm + `(?:=` + valueForm + `)?)*`
	itemForm   = `(?:` + valueForm + paramsForm + `)`
	innerForm  = `\( *(?:` + itemForm + `(?: +` + itemForm + `)* *)?\)` + paramsForm
	memberForm = `(?:` + innerForm + `|` + itemForm + `)`
	entryForm  = `(?:` + keyForm + `(?:=` + memberForm + `|` + paramsForm + `))`
)

// separatedForm is the form of a list or dictionary of that part.
func separatedForm(part string) *regexp.Regexp {
	return regexp.MustCompile(`^ *(?:` + part + `[ \t]*(?:,[ \t]*` + part + `[ \t]*)*)?$`)
}

// The longest match is taken, as far as each part goes.
func longest(form string) *regexp.Regexp {
	r := regexp.MustCompile(form)
	r.Longest()
	return r
}

var (
	listText    = separatedForm(memberForm)
	dictText    = separatedForm(entryForm)
	memberParts = longest(memberForm)
	entryParts  = longest(entryForm)
	itemParts   = longest(itemForm)
	innerParts  = regexp.MustCompile(`^\((` + ` *(?:` + itemForm + `(?: +` + itemForm + `)* *)?` + `)\)(` + paramsForm + `)$`)
	dictParts   = regexp.MustCompile(`^(` + keyForm + `)(=?)(.*)$`)
)

// memberByForm returns the member that a text of memberForm is.
func memberByForm(t *testing.T, s string) members.Member {
	if s[0] != '(' {
		return members.Member{Item: itemByForm(t, s)}
	}
	parts := innerParts.FindStringSubmatch(s)
	params, _, e := item.Params(parts[2])
	if e != api.OK {
		t.Fatalf("Params(%q): %d", parts[2], e)
	}
	m := members.Member{Inner: true, Params: params}
	for _, x := range itemParts.FindAllString(parts[1], -1) {
		m.Items = append(m.Items, itemByForm(t, x))
	}
	return m
}

func itemByForm(t *testing.T, s string) item.Item {
	x, e := item.Parse(s)
	if e != api.OK {
		t.Fatalf("Parse(%q): %d", s, e)
	}
	return x
}

// listByForm is List, made of the forms.
func listByForm(t *testing.T, s string) ([]members.Member, bool) {
	var l []members.Member
	if !listText.MatchString(s) {
		return nil, false
	}
	for _, part := range memberParts.FindAllString(s, -1) {
		l = append(l, memberByForm(t, part))
	}
	return l, true
}

// dictByForm is Dict, made of the forms.
func dictByForm(t *testing.T, s string) ([]members.Entry, bool) {
	var l []members.Entry
	if !dictText.MatchString(s) {
		return nil, false
	}
	for _, part := range entryParts.FindAllString(s, -1) {
		parts := dictParts.FindStringSubmatch(part)
		text := parts[3]
		if parts[2] == "" {
			text = "?1" + text
		}
		one := entry(parts[1], memberByForm(t, text))
		place := slices.IndexFunc(l, func(e members.Entry) bool { return e.Key == one.Key })
		if place < 0 {
			l = append(l, one)
		} else {
			l[place] = one
		}
	}
	return l, true
}

// eachText calls f with all texts over the alphabet of at most that length, the empty one among them.
func eachText(alphabet string, most int, f func(string)) {
	var longer func(s string)
	longer = func(s string) {
		f(s)
		for i := range len(alphabet) {
			if len(s) < most {
				longer(s + alphabet[i:i+1])
			}
		}
	}
	longer("")
}

func checkList(t *testing.T, s string, want ...members.Member) {
	t.Helper()
	if l, e := members.List(s); !slices.EqualFunc(l, want, equal) || e != api.OK {
		t.Errorf("List(%s) = %s, %d; not %s", brief(s), brief(l), e, brief(want))
	}
}

func checkDict(t *testing.T, s string, want ...members.Entry) {
	t.Helper()
	if l, e := members.Dict(s); !slices.EqualFunc(l, want, equalEntries) || e != api.OK {
		t.Errorf("Dict(%s) = %s, %d; not %s", brief(s), brief(l), e, brief(want))
	}
}

func checkListRefused(t *testing.T, texts ...string) {
	t.Helper()
	for _, s := range texts {
		if l, e := members.List(s); len(l) != 0 || e != api.ErrForm {
			t.Errorf("List(%s) = %s, %d", brief(s), brief(l), e)
		}
	}
}

func checkDictRefused(t *testing.T, texts ...string) {
	t.Helper()
	for _, s := range texts {
		if l, e := members.Dict(s); len(l) != 0 || e != api.ErrForm {
			t.Errorf("Dict(%s) = %s, %d", brief(s), brief(l), e)
		}
	}
}

// checkMember holds a member's text in lists and in dictionaries, alone and beside others.
func checkMember(t *testing.T, s string, want members.Member) {
	t.Helper()
	one, yes := single(integer(1)), single(boolean(1))
	checkList(t, s, want)
	checkList(t, "  "+s+" \t ", want)
	checkList(t, "1,"+s, one, want)
	checkList(t, s+"\t , \t1", want, one)
	checkList(t, s+","+s+", "+s, want, want, want)
	checkDict(t, "a="+s, entry("a", want))
	checkDict(t, "  a="+s+" \t ", entry("a", want))
	checkDict(t, "b,a="+s, entry("b", yes), entry("a", want))
	checkDict(t, "a="+s+"\t , \tb", entry("a", want), entry("b", yes))
	checkDict(t, "b="+s+","+"a="+s+", b", entry("b", yes), entry("a", want))
}

// checkMemberRefused holds texts that no member is in lists and in dictionaries, alone and beside others.
func checkMemberRefused(t *testing.T, texts ...string) {
	t.Helper()
	for _, s := range texts {
		checkListRefused(t, s+",1", "1, "+s, " "+s+" ,1")
		checkDictRefused(t, "a="+s, "a="+s+", b", "b,a="+s, " a="+s+" ,b", "a="+s+", a")
		if strings.Trim(s, " ") != "" {
			checkListRefused(t, s, " "+s, s+" ")
		}
	}
}

// P4.1: members.

func TestItemsAsMembers(t *testing.T) {
	yes, a, b := boolean(1), param("a", boolean(1)), param("b", integer(2))
	for s, m := range map[string]members.Member{
		"5": single(integer(5)), "-0": single(integer(0)), "1.50": single(decimal(1500)), "b": single(token("b")), "*": single(token("*")), "text/html": single(token("text/html")), "?1": single(yes), "?0": single(boolean(0)), ":aGk=:": single(binary("hi")), "::": single(binary("")),
		// What separates is none within a String.
		`""`: single(quoted("")), `"a, b"`: single(quoted("a, b")), `","`: single(quoted(",")), `"(1)"`: single(quoted("(1)")), `"\",\\"`: single(quoted(`",\`)), `" "`: single(quoted(" ")), `"=;"`: single(quoted("=;")),
	} {
		checkMember(t, s, m)
		m.Item.Params = list(a)
		checkMember(t, s+";a", m)
		checkMember(t, s+";  a", m)
		m.Item.Params = list(a, b)
		checkMember(t, s+";a=5;b=2;a", m)
		m.Item.Params = list(param("a", quoted(", (1)")))
		checkMember(t, s+`;a=", (1)"`, m)
		checkMemberRefused(t, s+";", s+";A", s+";a=", s+";a;", s+" ;a", s+"\t;a", s+";\ta", s+";a= 1", s+";a =1", s+";a=(1)", s+" 1", s+"(1)", s+"=1", s+" =1", s+";a=1=1", s+"\n", s+"\x00", s+"\u00a0", s+")", s+";;a")
	}
	checkMemberRefused(t, "", " ", "\t", "?", "?2", "-", "1.", ".5", `"a`, `"\n"`, ":a:", ":a", "+1", "=", "=1", ";a", ")", "@", "[1]", "\x00", "\x80", "\xff", "\u00e9", "1234567890123456", "1.2345", "--1", "1 2", "a b")
}

func TestInnerLists(t *testing.T) {
	one, two, a, b := with(integer(1)), with(integer(2)), param("a", boolean(1)), param("b", integer(2))
	x, y := with(integer(1), a), with(token("t"), b, a)
	for s, want := range map[string]members.Member{
		"()": inner(nil), "( )": inner(nil), "(     )": inner(nil),
		"(1)": inner(nil, one), "( 1)": inner(nil, one), "(1 )": inner(nil, one), "(   1    )": inner(nil, one),
		"(1 2)": inner(nil, one, two), "(1    2)": inner(nil, one, two), "(  1  2  )": inner(nil, one, two), "(1 2 1 2)": inner(nil, one, two, one, two), "(1 1)": inner(nil, one, one),
		"(1;a)":                 inner(nil, x),
		"(1;a )":                inner(nil, x),
		"(1; a  t;b=2; a)":      inner(nil, x, y),
		"(1;a 1;a)":             inner(nil, x, x),
		"(1;a=5;a)":             inner(nil, x),
		"(1);a":                 inner(list(a), one),
		"();a":                  inner(list(a)),
		"( );b=2;  a":           inner(list(b, a)),
		"(1);a;b=1;a;b=2":       inner(list(a, b), one),
		"(1;a 2);b=2":           inner(list(b), x, two),
		"(1;a);a":               inner(list(a), x),
		"(?1 ?0)":               inner(nil, with(boolean(1)), with(boolean(0))),
		`("a" ")" " (" "\")")`:  inner(nil, with(quoted("a")), with(quoted(")")), with(quoted(" (")), with(quoted(`")`))),
		"(:aGk=: :: 1.5 a:b/c)": inner(nil, with(binary("hi")), with(binary("")), with(decimal(1500)), with(token("a:b/c"))),
		`(1);a=");b"`:           inner(list(param("a", quoted(");b"))), one),
	} {
		checkMember(t, s, want)
	}
}

func TestInnerListsThatAreNone(t *testing.T) {
	checkMemberRefused(t, "(", "( ", "(1", "(1 ", "(1 2", "(1;a", "(1;a ", "(1;", `("a`, `("a)`, `(")`, "(1;a=", "(:a", "((", "(a=)", "(a=")
	// Nothing but spaces stands between items.
	checkMemberRefused(t, "(1,2)", "(1, 2)", "(1 ,2)", "(,)", "(1,)", "(\t)", "(\t1)", "(1\t)", "(1\t2)", "(1 \t2)", "(1\t 2)", "(1\n2)", "(1;a\t2)", "(1;a,2)", "( \t)")
	checkMemberRefused(t, `("a""b")`, `("a"b)`, `(a"b")`, `(1"b")`, "(1a)", "(1.5a)", "(?1?0)", "(?1a)", "(::::)", "(:aGk=:a)", `(1;a"b")`, "(1:)", "(a(b)", "(1=2)", "(a=1)", "(1-1)", "(?11)", "(1?1)")
	// An inner list holds no other.
	checkMemberRefused(t, "(())", "((1))", "(1 (2))", "((1) 2)", "(1 ())", "(1();a)")
	checkMemberRefused(t, "())", "(1))", "()()", "(1)(2)", "() ()", "(1) (2)", "(1)2", "(1) 2", "1(2)", "1 (2)", "(1)a", "()=1", "(1)=1", `()"a"`, "(1)?1", "a()", "a(1)")
	checkMemberRefused(t, "(1) ;a", "(1)\t;a", "();", "() ;a", "();A", "();a=", "();a= 1", "();a;", "();;a", "();\ta", "();a=(1)", "();a=1=2", "(1 ;a)", "(;a)", "( ;a)", "(1;a;)", "(1;A)", "(1;a=)", "(1;a= 1)", "(1;a =1)")
	checkMemberRefused(t, "(?)", "(?2)", "(-)", "(1.)", "(.5)", `("\n")`, "(:a:)", "(@)", "(=)", "(\x00)", "(\x80)", "(\u00e9)", "(1 ?2)", "(?2 1)", "(1234567890123456)")
}

func TestWhatFollowsAMember(t *testing.T) {
	yes := single(boolean(1))
	for c := range 256 {
		behind := string([]byte{byte(c)})
		for _, m := range []string{"()", "() ", "()\t"} {
			switch c {
			case ',':
				checkList(t, m+behind+"?1", inner(nil), yes)
				checkDict(t, "a="+m+behind+"b", entry("a", inner(nil)), entry("b", yes))
				checkListRefused(t, m+behind)
				checkDictRefused(t, "a="+m+behind)
			case ' ', '\t':
				checkList(t, m+behind, inner(nil))
				checkDict(t, "a="+m+behind, entry("a", inner(nil)))
				checkListRefused(t, m+behind+"?1")
				checkDictRefused(t, "a="+m+behind+"b")
			default:
				checkListRefused(t, m+behind, m+behind+",?1")
				checkDictRefused(t, "a="+m+behind, "a="+m+behind+",b")
			}
		}
	}
}

func TestWhatFollowsAnItemOfAnInnerList(t *testing.T) {
	a, b := with(quoted("a")), with(quoted("b"))
	for c := range 256 {
		s := `("a"` + string([]byte{byte(c)})
		if c == ' ' {
			checkMember(t, s+`"b")`, inner(nil, a, b))
			checkMember(t, s+")", inner(nil, a))
			continue
		}
		checkMemberRefused(t, s+`"b")`, s+")")
	}
	checkMember(t, `("a")`, inner(nil, a))
}

// P4.1: lists.

func TestList(t *testing.T) {
	one, a := single(integer(1)), single(token("a"))
	for _, s := range []string{"", " ", "      "} {
		checkList(t, s)
		checkDict(t, s)
	}
	for _, s := range []string{"1,a", "1, a", "1 ,a", "1\t,a", "1,\ta", "1 \t , \t a", "  1,a", "1,a  ", "1,a\t", " 1\t\t,\t\ta \t \t"} {
		checkList(t, s, one, a)
	}
	checkList(t, "1,1,1", one, one, one)
	checkList(t, "a;x, (a;x 1);y", single(token("a"), param("x", boolean(1))), inner(list(param("y", boolean(1))), with(token("a"), param("x", boolean(1))), with(integer(1))))
	checkListRefused(t, "\t", " \t", "\t ", "\t1", " \t1", "\n", " \n", "\x00", "1\n", "\n1", "1\r\n", "1\v,1", "1,\n1", "\u00a01", "1\u3000")
	checkListRefused(t, "1,", "1, ", "1,\t", "1 , ", "1,a,", "1,a , ", ",", " ,", ",1", " ,1", ", 1", "1,,a", "1, ,a", "1,\t,a", ",,", "(),", "1;a,")
	checkListRefused(t, "1 a", "1\ta", "1; a b", "1;a b", "(1 2) a", "a=1, b", "1;1", "1|a", "1/a, 1/", "{}", "1,)", "1,(", `1,"`)
}

// P4.1: dictionaries.

func TestDict(t *testing.T) {
	yes, one, x := single(boolean(1)), single(integer(1)), param("x", boolean(1))
	// The document's example.
	checkDict(t, "a=(1 2);x, b", entry("a", inner(list(x), with(integer(1)), with(integer(2)))), entry("b", yes))
	for _, s := range []string{"a=1,b", "a=1, b", "a=1 ,b", "a=1\t,b", "a=1,\tb", "a=1 \t , \t b", "  a=1,b", "a=1,b  ", "a=1,b\t", "a=1,b=?1"} {
		checkDict(t, s, entry("a", one), entry("b", yes))
	}
	checkDict(t, "a", entry("a", yes))
	checkDict(t, "a=?1", entry("a", yes))
	checkDict(t, "a=?0", entry("a", single(boolean(0))))
	checkDict(t, "a;x", entry("a", single(boolean(1), x)))
	checkDict(t, "a=?1;x", entry("a", single(boolean(1), x)))
	checkDict(t, "a;  x ,b;y=1;x;y=2\t", entry("a", single(boolean(1), x)), entry("b", single(boolean(1), param("y", integer(2)), x)))
	checkDict(t, "a;x=1, b", entry("a", single(boolean(1), param("x", integer(1)))), entry("b", yes))
	checkDict(t, "*_-.9z=1, *, z9", entry("*_-.9z", one), entry("*", yes), entry("z9", yes))
	checkDict(t, `max-age=60, no-cache="a, b", public`, entry("max-age", single(integer(60))), entry("no-cache", single(quoted("a, b"))), entry("public", yes))
	checkDict(t, "a=a, b=a", entry("a", single(token("a"))), entry("b", single(token("a"))))
	checkDictRefused(t, "\t", " \t", "\ta", " \ta", "\n", "a\n", "\na", "a\v,b", "\u00a0a", "\x00", "a\x80")
	checkDictRefused(t, "a,", "a, ", "a,\t", "a=1,", ",", " ,", ",a", " ,a", "a,,b", "a, ,b", ",,", "a=(),", "a;x,")
	checkDictRefused(t, "a b", "a\tb", "a=1 b", "a =1", "a\t=1", "a= 1", "a=\t1", "a=", "a=,b", "a==1", "a=1=1", "a=b=c", "=", "=1", "a;", "a;=1", "a;A", "a;x=", "a;x= 1", "a ;x", "a;x =1", "a;x=(1)", "a;;x", "a(1)", "a (1)", "a;x(1)", "a\"b\"", "a?1")
	checkDictRefused(t, "A", "A=1", "1", "1=1", "-a", "_a=1", ".", "aB", "aB=1", "a, B", "a=1, 1", `"a"`, `"a"=1`, "(a)", "()", "?1", ":a:", ";x", "a/b", "a:b", "a!", "\u00e9", "a\u00e9=1", "a, =1")
}

func TestDictsWhoseKeysComeAgain(t *testing.T) {
	yes, one, two, three := single(boolean(1)), single(integer(1)), single(integer(2)), single(integer(3))
	x := param("x", boolean(1))
	checkDict(t, "a,a", entry("a", yes))
	checkDict(t, "a=1,a=2", entry("a", two))
	checkDict(t, "a=1,a", entry("a", yes))
	checkDict(t, "a,a=1", entry("a", one))
	checkDict(t, "a=1,b=2,a=3", entry("a", three), entry("b", two))
	checkDict(t, "b=1,a=2,a=3", entry("b", one), entry("a", three))
	checkDict(t, "a=1, b=2, c=3, b", entry("a", one), entry("b", yes), entry("c", three))
	checkDict(t, "a=1,b=2,c=3,c=1,b=3,a=2", entry("a", two), entry("b", three), entry("c", one))
	checkDict(t, "a=1,aa,a.=2,aa=3", entry("a", one), entry("aa", three), entry("a.", two))
	// All of the entry is replaced.
	checkDict(t, "a=1, b, a=(2 3);x", entry("a", inner(list(x), with(integer(2)), with(integer(3)))), entry("b", yes))
	checkDict(t, "a=(2 3);x, b, a=1", entry("a", one), entry("b", yes))
	checkDict(t, "a=(2 3);x, b, a", entry("a", yes), entry("b", yes))
	checkDict(t, "a=(1 2);x, b=(3), a=()", entry("a", inner(nil)), entry("b", inner(nil, with(integer(3)))))
	checkDict(t, "a=1;x, a=2", entry("a", two))
	checkDict(t, "a;x, a", entry("a", yes))
	checkDict(t, "a, a;x", entry("a", single(boolean(1), x)))
	checkDict(t, "a=1, a=2, a=3, a=?1;x", entry("a", single(boolean(1), x)))
	// Wrong even where a later entry would replace it.
	checkDictRefused(t, "a=, a", "a=(, a=1", "a=?2, a", "a=1 2, a", "a, a=", "a, a=(", "a;, a")
}

// P4.1: all short texts, against the forms.

func checkByForm(t *testing.T, alphabet string, most int) {
	lists, dicts, refused := 0, 0, 0
	eachText(alphabet, most, func(s string) {
		l, isList := listByForm(t, s)
		if isList {
			lists++
			checkList(t, s, l...)
		} else {
			refused++
			checkListRefused(t, s)
		}
		d, isDict := dictByForm(t, s)
		if isDict {
			dicts++
			checkDict(t, s, d...)
		} else {
			checkDictRefused(t, s)
		}
	})
	if lists == 0 || dicts == 0 || refused == 0 {
		t.Error("one side only:", alphabet, lists, dicts, refused)
	}
}

func TestAllShortTexts(t *testing.T) {
	checkByForm(t, "a1(), ;=", 6)
	checkByForm(t, "a,\t =", 7)
	checkByForm(t, "(a )", 9)
	checkByForm(t, "ab=1,", 8)
	checkByForm(t, `"\,a`, 7)
	checkByForm(t, "?1(),-.", 6)
	checkByForm(t, "a;=,", 9)
}

func TestShortTextsOfPieces(t *testing.T) {
	pieces := []string{"a", "b=", "(", ")", "1", `"x,) "`, ", ", " ", "\t", ";p", ";q=", "?0"}
	var texts func(s string, most int)
	texts = func(s string, most int) {
		if l, is := listByForm(t, s); is {
			checkList(t, s, l...)
		} else {
			checkListRefused(t, s)
		}
		if d, is := dictByForm(t, s); is {
			checkDict(t, s, d...)
		} else {
			checkDictRefused(t, s)
		}
		for _, piece := range pieces {
			if most > 0 {
				texts(s+piece, most-1)
			}
		}
	}
	texts("", 5)
}

// P0: long texts end too.

func TestLongTexts(t *testing.T) {
	spaces, tabs := strings.Repeat(" ", many), strings.Repeat("\t ", many)
	one := single(integer(1))
	checkList(t, spaces)
	checkList(t, spaces+"1"+tabs+","+tabs+"1"+tabs, one, one)
	checkDict(t, spaces+"a"+tabs+","+tabs+"b=1"+tabs, entry("a", single(boolean(1))), entry("b", one))
	checkList(t, "("+spaces+"1"+spaces+"1"+spaces+")", inner(nil, with(integer(1)), with(integer(1))))
	checkListRefused(t, strings.Repeat("(", many), strings.Repeat("1,", many), strings.Repeat(",", many), "("+strings.Repeat("1 ", many), spaces+tabs, strings.Repeat("()", many), strings.Repeat("1 ", many))
	checkDictRefused(t, strings.Repeat("a,", many), strings.Repeat("a=(", many), strings.Repeat("a=", many), strings.Repeat("a", many)+"=")
	checkDict(t, strings.Repeat("a=(1), ", many)+"a=1", entry("a", one))
}

func TestManyMembers(t *testing.T) {
	var texts, entries []string
	var l []members.Member
	var d []members.Entry
	var items []item.Item
	for i := range many {
		text, m := strconv.Itoa(i), single(integer(int64(i)))
		texts, entries = append(texts, text), append(entries, "k"+text+"="+text)
		l, d, items = append(l, m), append(d, entry("k"+text, m)), append(items, m.Item)
	}
	checkList(t, strings.Join(texts, ","), l...)
	checkList(t, "("+strings.Join(texts, " ")+")", inner(nil, items...))
	checkDict(t, strings.Join(entries, ","), d...)
	d[many/2].Value = inner(nil)
	checkDict(t, strings.Join(entries, ", ")+", "+d[many/2].Key+"=()", d...)
	checkListRefused(t, strings.Join(texts, ",")+",")
	checkDictRefused(t, strings.Join(entries, ",")+",")
}

// P4.3: the theorem.

// checkListPrintedIsParsed prints the valid list l, and returns its text.
func checkListPrintedIsParsed(t *testing.T, l ...members.Member) string {
	t.Helper()
	s, e := members.PrintList(l)
	if e != api.OK {
		t.Errorf("PrintList(%s): error %d", brief(l), e)
	}
	checkList(t, s, l...)
	return s
}

func checkDictPrintedIsParsed(t *testing.T, l ...members.Entry) {
	t.Helper()
	s, e := members.PrintDict(l)
	if e != api.OK {
		t.Errorf("PrintDict(%s): error %d", brief(l), e)
	}
	checkDict(t, s, l...)
}

func validMembers() []members.Member {
	values := []api.Bare{integer(0), integer(-7), decimal(-50), quoted(""), quoted(` a, ;b="c)`), quoted(`\`), token("a"), token("*:/"), binary(""), binary("\xff,"), boolean(0), boolean(1)}
	var all []members.Member
	for i, b := range values {
		next := values[(i+1)%len(values)]
		p, q := param("p", b), param("*-_.9", next)
		all = append(all,
			single(b), single(b, p), single(b, q, p), single(boolean(1), p, q),
			inner(nil, with(b)), inner(nil, with(b, p)), inner(list(p), with(b)), inner(list(q, p), with(b, p, q), with(next), with(next, q)), inner(nil, with(b), with(b)), inner(list(p)))
	}
	return append(all, inner(nil))
}

func TestPrintedIsParsed(t *testing.T) {
	checkListPrintedIsParsed(t)
	checkDictPrintedIsParsed(t)
	all := validMembers()
	checkListPrintedIsParsed(t, all...)
	for i, x := range all {
		checkListPrintedIsParsed(t, x)
		for _, key := range []string{"a", "*", "z-_.*9"} {
			checkDictPrintedIsParsed(t, entry(key, x))
		}
		for _, y := range all {
			checkListPrintedIsParsed(t, x, y)
			checkListPrintedIsParsed(t, x, y, all[(i+7)%len(all)])
			checkDictPrintedIsParsed(t, entry("b", x), entry("a", y), entry("aa", all[(i+7)%len(all)]))
		}
	}
}

func TestWhatIsParsedIsValidAndParsedAgain(t *testing.T) {
	lists, dicts := 0, 0
	eachText("a(1), ;=", 6, func(s string) {
		if l, e := members.List(s); e == api.OK {
			lists++
			if slices.ContainsFunc(l, func(m members.Member) bool { return !valid(m) }) {
				t.Errorf("List(%q) = %+v, which is not valid", s, l)
			}
			checkListPrintedIsParsed(t, l...)
		}
		if d, e := members.Dict(s); e == api.OK {
			dicts++
			if !validDict(d) {
				t.Errorf("Dict(%q) = %+v, which is not valid", s, d)
			}
			checkDictPrintedIsParsed(t, d...)
		}
	})
	if lists < 100 || dicts < 100 {
		t.Error("too few:", lists, dicts)
	}
}

func TestJoinedListsAreTheirConcatenation(t *testing.T) {
	type parsed struct {
		text string
		l    []members.Member
	}
	var all []parsed
	eachText("a( )1,;\t", 4, func(s string) {
		// A text without members ends a list with a comma, which P4.1 refuses.
		if l, e := members.List(s); e == api.OK && len(l) > 0 {
			all = append(all, parsed{s, l})
		}
	})
	for _, x := range all {
		for _, y := range all {
			checkList(t, x.text+","+y.text, slices.Concat(x.l, y.l)...)
		}
	}
	if len(all) < 100 {
		t.Error("too few:", len(all))
	}
	full := validMembers()
	for i := range full {
		if i > 0 {
			checkList(t, checkListPrintedIsParsed(t, full[:i]...)+","+checkListPrintedIsParsed(t, full[i:]...), full...)
		}
	}
}

// R3: an answer belongs to its caller.

func TestAnswersAreTheCallers(t *testing.T) {
	const s = "(1;a=1 2;b=2);c=3, 4;d=4"
	want, _ := members.List(s)
	first, _ := members.List(s)
	for i := range first {
		for j := range first[i].Items {
			first[i].Items[j].Params[0] = param("changed", integer(9))
			_ = append(first[i].Items[j].Params, param("more", integer(9)))
			first[i].Items[j].Value = integer(9)
		}
		_ = append(first[i].Items, with(integer(9)))
		_ = append(first[i].Params, param("more", integer(9)))
		first[i] = members.Member{}
	}
	_ = append(first, members.Member{})
	checkList(t, s, want...)
	checkList(t, s, inner(list(param("c", integer(3))), with(integer(1), param("a", integer(1))), with(integer(2), param("b", integer(2)))), single(integer(4), param("d", integer(4))))
	again, _ := members.Dict("a=1, b=2, a=3")
	again[0], again[1] = again[1], again[0]
	checkDict(t, "a=1, b=2, a=3", entry("a", single(integer(3))), entry("b", single(integer(2))))
}
