package legacy_test

import (
	"strconv"
	"strings"
	"testing"

	"scullery/legacy"
)

const tokenBytes = "!#$%&'*+-.^_`|~0123456789ABCDEFGHIJKLMNOPQRSTUVWXYZabcdefghijklmnopqrstuvwxyz"

// P10.1: texts of directives.

func TestParseOfOneDirective(t *testing.T) {
	for s, want := range map[string]legacy.Directive{
		// Without a =.
		"a": bare("a"), "no-store": bare("no-store"), "5": bare("5"), "-": bare("-"), "x!#$%&'*+-.^_`|~": bare("x!#$%&'*+-.^_`|~"),
		// With a token.
		"a=b": with("a", "b"), "max-age=60": with("max-age", "60"), "1=2": with("1", "2"), "a=-": with("a", "-"), "a=*": with("a", "*"), "a=x!#$%&'*+-.^_`|~": with("a", "x!#$%&'*+-.^_`|~"),
		// With a quoted string.
		`a=""`: with("a", ""), `a="b"`: with("a", "b"), `a=" "`: with("a", " "), `a=" b "`: with("a", " b "), `a="b c"`: with("a", "b c"), `a="b,c"`: with("a", "b,c"), `a=","`: with("a", ","), `a="b, c, d"`: with("a", "b, c, d"), `a="b=c"`: with("a", "b=c"), `a="="`: with("a", "="), `a="5"`: with("a", "5"), "a=\"\t\"": with("a", "\t"), "a=\"\x00\r\n\x7f\xff\u00e9\"": with("a", "\x00\r\n\x7f\xff\u00e9"),
		// With escaped quotes and backslashes.
		`a="\""`: with("a", `"`), `a="\\"`: with("a", `\`), `a="\"\""`: with("a", `""`), `a="\\\\"`: with("a", `\\`), `a="\\\""`: with("a", `\"`), `a="\"\\"`: with("a", `"\`), `a="b\"c\\d"`: with("a", `b"c\d`), `a="\",\""`: with("a", `","`), `a="\\,"`: with("a", `\,`),
		// With other bytes escaped.
		`a="\b"`: with("a", "b"), `a="\b\c"`: with("a", "bc"), `a="b\,c"`: with("a", "b,c"), `a="\ "`: with("a", " "), `a="\n"`: with("a", "n"), `a="\0"`: with("a", "0"), "a=\"\\\x00\\\xff\"": with("a", "\x00\xff"), "a=\"\\\u00e9\"": with("a", "\u00e9"), `a="\\b"`: with("a", `\b`), `a="\\\b"`: with("a", `\b`), `a="\=\""`: with("a", `="`),
		// Names in upper case; values stay.
		"A": bare("a"), "NO-STORE": bare("no-store"), "Max-Age=60": with("max-age", "60"), "A=B": with("a", "B"), `A="B"`: with("a", "B"), `aZ="\A"`: with("az", "A"), "A^_`Z": bare("a^_`z"),
		// Blanks and empty parts about it.
		" a": bare("a"), "a ": bare("a"), "\t a=b \t": with("a", "b"), ` a="b" `: with("a", "b"), ",a": bare("a"), "a,": bare("a"), " , ,\t, a=b ,, ,": with("a", "b"),
	} {
		checkParse(t, s, want)
		checkParseByForm(t, s)
	}
}

func TestPartsThatAreNoDirectives(t *testing.T) {
	for _, part := range []string{
		"", " ", "\t",
		// Without a name, or with one that is no token.
		"=", "=5", `="5"`, "==", "= a", `"a"`, `"a"=b`, `""`, "a b", "a b=c", "a\tb", "a/b", "a/b=c", "a;b", "a:b=c", "a@", "(a)", "[a]", "{a}", "<a>", "a?", `a\`, `\a=b`, "a\x00", "a\x7f", "a\x80", "caf\u00e9", "caf\u00e9=1", "\u212a", "\xff=1",
		// With a = and nothing behind it.
		"a=", "max-age=",
		// With blanks about the =.
		"a =b", "a= b", "a = b", "a\t=b", "a=\tb", "a =", `a ="b"`, `a= "b"`, `a = "b"`, "a= ", "max-age = 60",
		// With a value that is no token.
		"a=b c", "a=b=c", "a==b", "a==", "a=b/c", "a=b;c", "a=b:c", "a=(b)", `a=b\c`, `a=\b`, "a=caf\u00e9", "a=\xff", "a=b\x00",
		// With bytes behind the end of a quoted string.
		`a="b"c`, `a="b" c`, `a=""b`, `a=""""`, `a="b""c"`, `a="b"\`, `a="\\"b`, `a="b"=c`, `a="b";c`, `a="b"  "c"`, "a=\"b\"\t\"\"",
		// With bytes ahead of its beginning.
		`a=b"c"`, `a=\"b"`, `a=b""`, `a="b"="c"`,
	} {
		for _, blanks := range []string{"", " ", "\t "} {
			checkParse(t, blanks+part+blanks)
			checkParse(t, "x="+`"y,z",`+blanks+part+blanks+",Y=1,"+part+",,v", with("x", "y,z"), with("y", "1"), bare("v"))
		}
		checkParseByForm(t, part)
	}
}

func TestQuotedStringsThatAreNotEnded(t *testing.T) {
	for _, part := range []string{
		`a="`, `a="b`, `a="b c`, `a="b=`, `a="\"`, `a="b\"`, `a="\\\"`, `a="\b`, `a="\"b`, `a="b\\\"`, `"`, `="`, `"a`, `a"`, `a="""`, `a="b""`, `a=b"c`, `a="\\"\"`,
		// With an escaping backslash at the end.
		`a="\`, `a="b\`, `a="\\\`, `a="b\\\`, `a="\"\`,
		// With parts that would be directives.
		`a="b,c`, `a="b,c=d`, `a="\",c`, `a="b,c,`,
	} {
		checkParse(t, part)
		// They have what is left of the text.
		checkParse(t, "x, "+part+` ,y`, bare("x"))
		checkParse(t, "x=1,"+part+`,y, \"`, with("x", "1"))
		checkParseByForm(t, part)
		checkParseByForm(t, part+`"`)
		checkParseByForm(t, part+`\`)
		checkParseByForm(t, part+`" , y`)
		checkParseByForm(t, part+`, y="`)
		checkParseByForm(t, part+`\",y="`)
	}
}

func TestDirectivesStandInOrder(t *testing.T) {
	checkParse(t, "")
	checkParse(t, ",, ,\t,")
	checkParse(t, "b, a", bare("b"), bare("a"))
	checkParse(t, "a,b=2,c=\"3\"", bare("a"), with("b", "2"), with("c", "3"))
	checkParse(t, "c , A=\",\",a ,b", bare("c"), with("a", ","), bare("a"), bare("b"))
	// The same name again stays, whatever its value.
	checkParse(t, "a=1, a=1, A=2, a", with("a", "1"), with("a", "1"), with("a", "2"), bare("a"))
	checkParse(t, "max-age=60, max-age=5, NO-STORE", with("max-age", "60"), with("max-age", "5"), bare("no-store"))
	checkParse(t, `Max-Age=60 , no-cache="a, b",x="\q\"" , =5, a b, y=, z="a"b, w="a, v`, with("max-age", "60"), with("no-cache", "a, b"), with("x", `q"`))
	// A semicolon separates nothing.
	checkParse(t, "a;b, c", bare("c"))
}

// P10.1, by the form.

func TestAllShortTexts(t *testing.T) {
	directives := 0
	for _, c := range []struct {
		pieces []string
		most   int
	}{
		{[]string{"a", "=", `"`, `\`, ",", " "}, 7},
		{[]string{"=", `"`, `\`, "B", "\xff"}, 7},
		{[]string{`="`, `"`, `\`, "x", ",", "A=", "/"}, 6},
		{[]string{`a="`, `\`, `"`, ","}, 8},
	} {
		for _, s := range texts(c.pieces, c.most) {
			directives += len(checkParseByForm(t, s))
		}
	}
	if directives < 50000 {
		t.Error("too few of them are directives:", directives)
	}
}

func TestTextsWithOneChange(t *testing.T) {
	for _, s := range []string{`Max-Age=60`, `a`, `a=""`, `no-cache="a, \"b\\", C=d ,e`, `x="\\\"",y`} {
		for _, s := range changed(s) {
			checkParseByForm(t, s)
		}
	}
}

func TestEachByte(t *testing.T) {
	for _, c := range everyByte() {
		inToken := strings.Contains(tokenBytes, c)
		for s, want := range map[string]legacy.Directive{
			c: bare(lower(c)), "A" + c: bare("a" + lower(c)), c + "=" + c: with(lower(c), c), "a=x" + c + "x": with("a", "x"+c+"x"), "a" + c + "b=\"\"": with("a"+lower(c)+"b", ""),
		} {
			checkParseByForm(t, s)
			if inToken {
				checkParse(t, s, want)
			}
		}
		checkParse(t, `a="x\`+c+`"`, with("a", "x"+c))
		checkParse(t, `a="\`+c+`\"", b`, with("a", c+`"`), bare("b"))
		if c != `"` && c != `\` {
			checkParse(t, `a="`+c+`"`, with("a", c))
			checkParse(t, `a="`+c+c+`\\"`, with("a", c+c+`\`))
		}
	}
}

func TestEachPairOfBytes(t *testing.T) {
	for _, pair := range texts(everyByte(), 2) {
		checkParseByForm(t, pair)
		checkParseByForm(t, "a="+pair)
		checkParseByForm(t, `a="`+pair+`"`)
	}
}

func TestLongTexts(t *testing.T) {
	const many = 300000
	long := strings.Repeat("aB", many)
	checkParse(t, long, bare(lower(long)))
	checkParse(t, "a="+long, with("a", long))
	checkParse(t, long+"=")
	checkParse(t, `a="`+long+`"`, with("a", long))
	checkParse(t, `a="`+long)
	checkParse(t, `a="`+strings.Repeat(`\`, 2*many)+`"`, with("a", strings.Repeat(`\`, many)))
	checkParse(t, `a="`+strings.Repeat(`\`, 2*many+1)+`"`)
	checkParse(t, `a="`+strings.Repeat(`\"`, many)+`"`, with("a", strings.Repeat(`"`, many)))
	checkParse(t, `a="`+strings.Repeat(`,`, many)+`",b`, with("a", strings.Repeat(",", many)), bare("b"))
	checkParse(t, strings.Repeat("=", many))
	checkParse(t, strings.Repeat(`"`, many))
	checkParse(t, strings.Repeat(" ,", many)+"a", bare("a"))
	checkParse(t, strings.Repeat("a b,=,", many)+"a", bare("a"))
	var want []legacy.Directive
	var text strings.Builder
	for i := range many {
		text.WriteString("A=" + strconv.Itoa(i) + ",")
		want = append(want, with("a", strconv.Itoa(i)))
	}
	checkParse(t, text.String(), want...)
}

// P1: parsing the text of directives returns them.

// textOf is a text of d, whose name is a lower-case token: with a token if its value is one and it may be, else with a quoted string that escapes what it must or, if all is told, everything.
func textOf(d legacy.Directive, quoted, all bool) string {
	if !d.Has {
		return d.Name
	}
	if !quoted && directiveForm.MatchString("a="+d.Value) && !strings.HasPrefix(d.Value, `"`) {
		return d.Name + "=" + d.Value
	}
	text := d.Name + `="`
	for _, c := range []byte(d.Value) {
		if all || c == '"' || c == '\\' {
			text += `\`
		}
		text += string([]byte{c})
	}
	return text + `"`
}

func TestParsingTheTextOfDirectives(t *testing.T) {
	for _, value := range texts([]string{"a", "Z", `"`, `\`, ",", " ", "=", "\xff", "\x00"}, 4) {
		first, second := with("a", value), with("b", value)
		for _, quoted := range []bool{false, true} {
			for _, all := range []bool{false, true} {
				text := textOf(first, quoted, all)
				checkParse(t, text, first)
				checkParse(t, text+","+textOf(bare("x"), quoted, all)+" , "+textOf(second, true, all), first, bare("x"), second)
			}
		}
	}
}
