package etag_test

import (
	"strings"
	"testing"

	"scullery/api"
	"scullery/etag"
)

// P12.2: the list of all.

func TestTheListOfAll(t *testing.T) {
	for _, s := range []string{"*", " *", "* ", " * ", "\t*", "*\t", "\t*\t", " \t *\t \t", strings.Repeat(" \t", many) + "*", "*" + strings.Repeat("\t ", many), strings.Repeat(" ", many) + "*" + strings.Repeat("\t", many)} {
		checkStar(t, s)
	}
	checkNoList(t,
		// Commas beside it.
		"*,", ",*", ",*,", "*, ", " ,*", "* ,", ", *", "*,*", "*, *", ", ,* ,",
		// A tag ahead of it or behind it.
		`"a",*`, `*,"a"`, `"a", *`, `*, "a"`, `"a" *`, `* "a"`, `*"a"`, `"a"*`, `"a", *, "b"`, `W/"a", *`, `*, W/"a"`, `"a",*,`, `,*,"a"`,
		// Something else beside it, around it or instead of it.
		"**", "* *", "*a", "a*", "W/*", `"*`, `*"`, "'*'", "\\*", "*\r\n", "\n*", "*\n", "\x00*", "*\x00", "\u00a0*", "*\u00a0", "\v*", "*\f", "+", "?", "\u2217", "\xff*",
	)
	// In quotes it is a tag as others.
	checkList(t, `"*"`, strong("*"))
	checkList(t, ` W/"*" `, weak("*"))
	checkList(t, `"*","*"`, strong("*"), strong("*"))
}

// P12.2: lists of tags.

func TestListsOfOneTag(t *testing.T) {
	for _, tag := range []etag.Tag{strong("a"), weak("a"), strong(""), weak(""), strong(","), weak("a,b"), strong(",,"), strong("*"), strong("W/"), weak("W/"), strong("\\"), strong("\xff"), weak("!#~\x80")} {
		for _, ahead := range []string{"", " ", "\t", ",", ", ", " ,", ",,", " \t,\t , ", ",\t,,  "} {
			for _, behind := range []string{"", " ", "\t", ",", ", ", " ,", ",,", " \t,\t , ", ",\t,,  "} {
				checkList(t, ahead+textOf(tag)+behind, tag)
			}
		}
	}
}

func TestListsOfSeveralTags(t *testing.T) {
	for _, between := range []string{",", ", ", " ,", " , ", ",\t", "\t,", "\t,\t", "   ,\t \t", ",,", ", ,", ",\t,", " , ,, ", ",,,,,", "\t , \t , \t "} {
		checkList(t, `"a"`+between+`"b"`, strong("a"), strong("b"))
		checkList(t, `W/"a"`+between+`"b"`, weak("a"), strong("b"))
		checkList(t, `"a"`+between+`W/"b"`, strong("a"), weak("b"))
		checkList(t, `W/"a"`+between+`W/"b"`+between+`"c"`, weak("a"), weak("b"), strong("c"))
		checkList(t, between+`"a"`+between+`"b"`+between, strong("a"), strong("b"))
		checkList(t, `""`+between+`W/""`+between+`""`, strong(""), weak(""), strong(""))
		checkList(t, `"a,b"`+between+`","`+between+`W/",W/"`, strong("a,b"), strong(","), weak(",W/"))
	}
	// In their order, and each as often as it stands there.
	checkList(t, `"b","a","c"`, strong("b"), strong("a"), strong("c"))
	checkList(t, `"a","a",W/"a","a"`, strong("a"), strong("a"), weak("a"), strong("a"))
	checkList(t, `"a", "b", "c", "d", W/"e", "f,g", "", "h"`, strong("a"), strong("b"), strong("c"), strong("d"), weak("e"), strong("f,g"), strong(""), strong("h"))
}

func TestTextsThatAreNoLists(t *testing.T) {
	checkNoList(t,
		// Nothing, blanks alone, commas alone.
		"", " ", "\t", " \t ", ",", ",,", ", ,", " , ", "\t,\t,", strings.Repeat(" ", many), strings.Repeat(",", many), strings.Repeat(", \t", many),
		// Without a comma between two.
		`"a" "b"`, `"a""b"`, "\"a\"\t\"b\"", `"a"   "b"`, `"a"W/"b"`, `"a" W/"b"`, `W/"a" W/"b"`, `W/"a""b"`, `"a", "b" "c"`, `"a" "b", "c"`, `"a";"b"`, `"a"."b"`, `"a"/"b"`, "\"a\"\n\"b\"", "\"a\"\n,\"b\"", "\"a\",\n\"b\"", "\"a\"\u00a0,\"b\"", "\"a\",\v\"b\"",
		// Something that is no tag.
		"a", "abc", "W", "W/", "/", "'a'", `"`, `"a`, `a"`, `W/a`, `w/"a"`, `W/W/"a"`, `W/ "a"`, `W /"a"`, `W/,"a"`, `W,/"a"`, `"a"b`, `a"b"`, `"a b"`, "\"a\x7f\"", "\"\t\"", "\x00", "\"a\"\x00", "\x00\"a\"", "\"a\"\r\n", "\xff", "\u00e9",
		// Such a thing ahead of a tag, between two, and behind.
		`a, "b"`, `, a`, `"a", b, "c"`, `W/, "a"`, `"a", W/, "b"`, `", "b"`, `"a", ", "b"`, `w/"a", "b"`, `"a", "b c", "d"`, `;"a"`, `="a"`,
		// Wrong only at the end.
		`"a", b`, `"a", "b" c`, `"a", "b"c`, `"a", "b`, `"a", b"`, `"a", "b", W/`, `"a", "b", W`, `"a", "b", "`, `"a", "b", *`, `"a", "b" "`, `"a", "b", c,`, `"a", "b c"`, `"a", w/"b"`, `"a",,,;`, "\"a\", \"b\"\n", "\"a\", \x00", "\"a\", \xff", "\"a\", \"\x7f\"",
	)
}

func TestAllTagsOfAListAreParsed(t *testing.T) {
	for c := range 256 {
		text := "a" + byteText(c)
		for _, list := range []string{`"b", "` + text + `"`, `"` + text + `","b"`, `"b", W/"` + text + `", "c"`} {
			checkListByForm(t, list)
			if _, _, e := etag.List(list); (e == api.OK) != isRight(c) {
				t.Errorf("List(%q): %d", list, e)
			}
		}
	}
}

// P12.2, by the form.

func TestAllShortLists(t *testing.T) {
	counts := map[int]int{}
	check := func(s string) { counts[checkListByForm(t, s)]++ }
	eachText([]string{`"`, "a", ",", " ", "W/", "*"}, 7, check)
	eachText([]string{`"a"`, `W/"b"`, ",", " ", "\t", `"`, "W/"}, 6, check)
	eachText([]string{`""`, `","`, ",", "\t", "w/", "\xff", "\x7f", "*"}, 6, check)
	eachText([]string{`"a"`, `W/""`, `,`, ` `, `*`}, 8, check)
	for count, least := range []int{1000, 1000, 1000, 1000, 10} {
		if counts[count] < least {
			t.Errorf("too few of %d tags: %d", count, counts[count])
		}
	}
}

func TestListsWithOneChange(t *testing.T) {
	for _, s := range []string{"*", " *\t", `"a"`, `W/"a", "b"`, ` ,"a,b",,W/"" , `, "\"\xff\"\t,\t\"a\"", `"a","b","c"`} {
		eachChange(s, func(s string) { checkListByForm(t, s) })
	}
}

func TestLongLists(t *testing.T) {
	for _, separator := range []string{",", ", ", " ,\t,"} {
		s := strings.Repeat(`"a"`+separator+`W/"b,"`+separator, many)
		l, all, e := etag.List(s)
		if len(l) != 2*many || all || e != api.OK {
			t.Fatalf("List(%s): %d, %t, %d", brief(s), len(l), all, e)
		}
		for i := range many {
			if l[2*i] != strong("a") || l[2*i+1] != weak("b,") {
				t.Fatalf("List(%s): %s, %s", brief(s), brief(l[2*i]), brief(l[2*i+1]))
			}
		}
		checkNoList(t, s+"a", s+"*", s+`"`, "*,"+s)
	}
	blanks := strings.Repeat(" \t", many)
	checkList(t, blanks+`"a"`+blanks+","+blanks+`"b"`+blanks, strong("a"), strong("b"))
	checkNoList(t, blanks+`"a"`+blanks+`"b"`+blanks, strings.Repeat(`"a"`, many), strings.Repeat(`"`, many), strings.Repeat("*", many), strings.Repeat("W/", many))
	long := strings.Repeat("a,", many)
	checkList(t, `"`+long+`",`+`W/"`+long+`"`, strong(long), weak(long))
}

// R3: a list belongs to the caller.

func TestListsAreNew(t *testing.T) {
	const s = `"a", W/"b"`
	first, _, _ := etag.List(s)
	first[0], first[1] = weak("x"), strong("y")
	checkList(t, s, strong("a"), weak("b"))
	second, _, _ := etag.List(s)
	_ = append(second[:1], weak("z"))
	checkList(t, s, strong("a"), weak("b"))
}
