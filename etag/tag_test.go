package etag_test

import (
	"strings"
	"sync"
	"testing"

	"scullery/api"
	"scullery/etag"
)

// P12.1: texts of entity tags, parsed and printed.

func TestTextsOfTags(t *testing.T) {
	for s, want := range map[string]etag.Tag{
		`"a"`: strong("a"), `"abc"`: strong("abc"), `"xyzzy"`: strong("xyzzy"), `"0-5f3e"`: strong("0-5f3e"),
		`W/"a"`: weak("a"), `W/"xyzzy"`: weak("xyzzy"),
		// An empty Text.
		`""`: strong(""), `W/""`: weak(""),
		// Texts that look as what is around them.
		`"W/"`: strong("W/"), `"W/a"`: strong("W/a"), `W/"W/"`: weak("W/"), `W/"W/a"`: weak("W/a"), `"w/a"`: strong("w/a"), `"/"`: strong("/"), `"W"`: strong("W"),
		`"*"`: strong("*"), `","`: strong(","), `"a,b"`: strong("a,b"), `",W/,"`: strong(",W/,"), `"'"`: strong("'"), `"'a'"`: strong("'a'"),
		// A backslash escapes nothing.
		`"\"`: strong(`\`), `"a\"`: strong(`a\`), `"\\"`: strong(`\\`), `W/"a\b"`: weak(`a\b`),
		// Bytes at the edges, and beyond ASCII.
		`"!"`: strong("!"), `"#"`: strong("#"), `"~"`: strong("~"), `"!#~"`: strong("!#~"), "\"\x80\"": strong("\x80"), "\"\xff\"": strong("\xff"), "W/\"\x80\xff\"": weak("\x80\xff"), "\"\u00e9\"": strong("\u00e9"), "\"\u2028\U0001f600\"": strong("\u2028\U0001f600"),
	} {
		checkParse(t, s, want)
		checkPrint(t, want)
		checkList(t, s, want)
	}
}

func TestTextsOfNoTag(t *testing.T) {
	checkNoTag(t,
		"", " ", "a", "*", ",", "W", "/", "W/", "\\", "\x00",
		// Without its first ", its last, or both.
		`a"`, `"a`, `"`, `W/a`, `W/a"`, `W/"a`, `W/"`, "'a'", "W/'a'",
		// A " within, and more behind the last.
		`"""`, `"a"b"`, `""""`, `"a""`, `""a"`, `"a""b"`, `"\""`, `"a\"b"`, `W/"a"b"`, `W/"""`,
		// Other ways of being weak.
		`w/"a"`, `w/""`, `W"a"`, `/"a"`, `W\"a"`, `WW/"a"`, `W//"a"`, `W/W/"a"`, `W/w/"a"`, `W/W/`, `"W/"a"`, `W/ "a"`, `W /"a"`, `"a"W/`, `"a"/W`, `W/"a"W/`, `"W"/"a"`,
		// Bytes ahead of it or behind it.
		` "a"`, `"a" `, "\t\"a\"", "\"a\"\t", `a"a"`, `"a"a`, `,"a"`, `"a",`, `"a", "b"`, `"a" "b"`, `"a","a"`, ` W/"a"`, `W/"a" `, "\"a\"\r\n", "\n\"a\"", "\"a\"\n", "\x00\"a\"", "\"a\"\x00", "\"a\"\xff", "\xff\"a\"",
		// Bytes that may not be in a Text.
		`" "`, `"a b"`, `" a"`, `"a "`, "\"\t\"", "\"a\tb\"", "\"\x00\"", "\"a\nb\"", "\"\r\"", "\"\x1f\"", "\"\x7f\"", "\"a\x7f\"", "\"\x7fa\"", `W/"a b"`, "W/\"\x7f\"", `"a", W/"b"`,
	)
}

func TestEachByteInATag(t *testing.T) {
	for c := range 256 {
		one := byteText(c)
		for _, text := range []string{one, one + one, one + "a", "a" + one, "a" + one + "b", "\xff" + one, one + "\x80", "!" + one + "~"} {
			for _, tag := range []etag.Tag{strong(text), weak(text)} {
				if isRight(c) {
					checkParse(t, textOf(tag), tag)
					checkPrint(t, tag)
					checkList(t, textOf(tag), tag)
				} else {
					checkNoTag(t, textOf(tag))
					checkNoPrint(t, tag)
					checkNoList(t, textOf(tag))
				}
			}
		}
	}
}

func TestTagsThatAreNotPrinted(t *testing.T) {
	for _, text := range []string{`"`, `""`, `"a"`, `a"`, `"a`, `W/"a"`, " ", "a b", " a", "a ", "\t", "\x00", "a\r\n", "\x7f", "\xff\x7f", "\u00e9 ", strings.Repeat("a", many) + " ", " " + strings.Repeat("a", many)} {
		checkNoPrint(t, strong(text))
		checkNoPrint(t, weak(text))
	}
}

// P12.1, by the form.

func TestAllShortTexts(t *testing.T) {
	some := 0
	check := func(s string) {
		if checkParseByForm(t, s) {
			some++
		}
	}
	eachText([]string{"W", "/", `"`, "a", " ", "*"}, 7, check)
	eachText([]string{"W/", "w/", `"`, ",", "\\", "\xff", "\x7f"}, 6, check)
	eachText([]string{`"`, "!", "#", "~", "\x80", "\u00e9", "\t", "\x00"}, 6, check)
	if some < 1000 {
		t.Error("too few of them are tags:", some)
	}
}

func TestTagsWithOneChange(t *testing.T) {
	for _, s := range []string{`"a"`, `W/"ab"`, `""`, `W/""`, `"W/"`, "\"\xff,\\\"", `W/"W/"`} {
		eachChange(s, func(s string) { checkParseByForm(t, s) })
	}
}

// P12.1: likeness.

func TestTheExampleOfTheChapter(t *testing.T) {
	a, b := weak("a"), strong("a")
	checkLike(t, a, b, false, true)
	checkLike(t, a, b, true, false)
}

func TestLike(t *testing.T) {
	// Equal Texts.
	for _, text := range []string{"", "a", "abc", "W/", `"`, "a b", "\x00", "\xff", "\u00e9", strings.Repeat("a", many)} {
		checkLike(t, strong(text), strong(text), false, true)
		checkLike(t, strong(text), weak(text), false, true)
		checkLike(t, weak(text), strong(text), false, true)
		checkLike(t, weak(text), weak(text), false, true)
		checkLike(t, strong(text), strong(text), true, true)
		checkLike(t, strong(text), weak(text), true, false)
		checkLike(t, weak(text), strong(text), true, false)
		checkLike(t, weak(text), weak(text), true, false)
	}
	// Unequal Texts, some of them nearly equal.
	for _, pair := range [][2]string{{"", "a"}, {"a", "b"}, {"a", "A"}, {"a", "aa"}, {"a", "W/a"}, {"a", `"a"`}, {"ab", "ba"}, {"a", " a"}, {"\xfe", "\xff"}, {"\xff", "\ufffd"}, {"\u00e9", "e\u0301"}, {"a", "a\x00"}} {
		for _, strongly := range []bool{false, true} {
			for _, one := range []bool{false, true} {
				for _, other := range []bool{false, true} {
					a, b := etag.Tag{Weak: one, Text: pair[0]}, etag.Tag{Weak: other, Text: pair[1]}
					checkLike(t, a, b, strongly, false)
					checkLike(t, b, a, strongly, false)
				}
			}
		}
	}
}

// P12.4: the theorem.

// eachTagOf calls f with all tags, weak and strong, whose Text has at most that many pieces.
func eachTagOf(pieces []string, most int, f func(etag.Tag)) {
	eachText(pieces, most, func(text string) {
		f(strong(text))
		f(weak(text))
	})
}

func TestParsingAPrintedTagReturnsIt(t *testing.T) {
	eachTagOf([]string{"a", "W/", ",", "\\", "*", "!", "#", "~", "\x80", "\xff"}, 4, func(tag etag.Tag) {
		s, e := etag.Print(tag)
		if e != api.OK {
			t.Errorf("Print(%s): %d", brief(tag), e)
		}
		checkParse(t, s, tag)
		checkList(t, s, tag)
	})
}

func TestPrintingAParsedTagReturnsItsText(t *testing.T) {
	eachText([]string{"W/", `"`, "a", ",", "\xff"}, 6, func(s string) {
		if tag, e := etag.Parse(s); e == api.OK {
			if again, e := etag.Print(tag); again != s || e != api.OK {
				t.Errorf("Parse(%q), printed: %q, %d", s, again, e)
			}
		}
	})
}

func TestLikeIsSymmetric(t *testing.T) {
	var tags []etag.Tag
	eachTagOf([]string{"a", "b", "\xff", " "}, 2, func(tag etag.Tag) { tags = append(tags, tag) })
	for _, a := range tags {
		for _, b := range tags {
			for _, strongly := range []bool{false, true} {
				want := a.Text == b.Text && !(strongly && (a.Weak || b.Weak))
				checkLike(t, a, b, strongly, want)
				checkLike(t, b, a, strongly, want)
			}
		}
	}
}

// P0: long texts.

func TestLongTags(t *testing.T) {
	for _, text := range []string{strings.Repeat("a", many), strings.Repeat("W/", many), strings.Repeat(",", many), strings.Repeat("\xff", many)} {
		for _, tag := range []etag.Tag{strong(text), weak(text)} {
			checkParse(t, textOf(tag), tag)
			checkPrint(t, tag)
		}
		checkNoTag(t, text, `"`+text, text+`"`, `"`+text+" \"", `"`+text+`" `, `" `+text+`"`)
	}
	checkNoTag(t, strings.Repeat(`"`, many), strings.Repeat("W/", many)+`"a"`, strings.Repeat(`"a"`, many))
}

// R4 and R5: the same call answers the same again, beside calls from other goroutines too.

func TestCallsAtTheSameTime(t *testing.T) {
	request := []api.Field{{Name: "if-none-match", Value: `"a", W/"b"`}}
	response := []api.Field{{Name: "etag", Value: `"b"`}}
	var group sync.WaitGroup
	for range 8 {
		group.Go(func() {
			for range 500 {
				checkParse(t, `W/"a,b"`, weak("a,b"))
				checkNoTag(t, `W/"a b"`)
				checkPrint(t, weak("a,b"))
				checkLike(t, weak("a"), strong("a"), false, true)
				checkList(t, `, "a",W/"b" ,`, strong("a"), weak("b"))
				checkStar(t, " *\t")
				checkHeld(t, true, request, response)
			}
		})
	}
	group.Wait()
}
