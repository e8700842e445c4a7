package vary_test

import (
	"fmt"
	"slices"
	"strings"
	"testing"

	"scullery/api"
)

// P15.2: fields that are absent, or empty.

func TestAbsentFields(t *testing.T) {
	for _, l := range [][]api.Field{nil, {}, others(""), others("a"), lines("b", "a", ""), lines("A", "x"), lines("a ", "x")} {
		checkValue(t, absent, l, "a")
		checkValue(t, absent, l, "c")
		checkValue(t, absent, l, "vary")
	}
	// A name is as it is.
	checkValue(t, absent, lines("a", "x"), "A")
	checkValue(t, absent, lines("a", "x"), "")
	checkValue(t, absent, lines("a", "x"), "a ")
	checkValue(t, absent, lines("a", "x"), "*")
	checkValue(t, absent, lines("accept", "x"), "accept-language")
	checkValue(t, absent, lines("accept-language", "x"), "accept")
	for _, f := range others("x,  y") {
		checkValue(t, of("x,y"), others("x ,\ty,"), f.Name)
	}
}

func TestEmptyFields(t *testing.T) {
	for _, value := range []string{"", " ", "\t", ",", ", ", " \t,,\t , ", strings.Repeat(",", many), strings.Repeat("\t ", many)} {
		checkValue(t, of(""), lines("a", value), "a")
		checkValue(t, of(""), lines("a", value, ""), "a")
		checkValue(t, of(""), lines("a", "", value, value), "a")
		checkValue(t, of(""), slices.Concat(others("x"), lines("a", value), others("x")), "a")
	}
}

// P15.2: parts.

func TestOnePart(t *testing.T) {
	for _, part := range []string{
		"x", "X", "*", "-", "0", "x y", "x \t y", "x;q=0.5", "text/html", "a:b", "x\\", "\\", "\x00", "\x80", "\xff", "\u00a0", "\r\n",
		`""`, `"x"`, `","`, `"x, y"`, `" x "`, `" , "`, `x="y, z"`, `"x" "y"`, `"x""y,z"`, `x"y`, `"`, `"x`, `"x, y`, `"x\"`, `"\",  "`, `"\\\"  ,  x"`,
	} {
		checkValue(t, of(part), lines("a", part), "a")
		checkValue(t, of(part), slices.Concat(others("z"), lines("a", part), others("z")), "a")
		for _, more := range []string{" %s", "\t %s", ",%s", ", %s", " ,\t,  %s"} {
			checkValue(t, of(part), lines("a", fmt.Sprintf(more, part)), "a")
		}
		checkValue(t, of(part), lines("a", "", part), "a")
		checkValue(t, of(part), lines("a", part+" \t"), "a")
	}
	for _, part := range []string{"x", "X", "x y", "x;q=0.5", `"x, y"`, `"\""`, `"x\\"`, `a"b"`} {
		for _, more := range []string{"%s,", "%s ,", "%s\t, ", "%s, ,,", ",,%s,,"} {
			checkValue(t, of(part), lines("a", fmt.Sprintf(more, part)), "a")
		}
		checkValue(t, of(part), lines("a", part, ""), "a")
	}
}

func TestSeveralParts(t *testing.T) {
	for _, separator := range []string{",", ", ", " ,", " , ", "\t,", ",\t", "\t,\t", "  \t,\t  ", ",,", ", ,", " ,\t,", ",,,,", "\t , , ,\t "} {
		join := func(parts ...string) string { return strings.Join(parts, separator) }
		checkValue(t, of("x,y"), lines("a", join("x", "y")), "a")
		checkValue(t, of("x,y"), lines("a", join("", "x", "y", "")), "a")
		checkValue(t, of("y,x,y"), lines("a", join("y", "x", "y")), "a")
		checkValue(t, of(`x,"p, q",z w`), lines("a", join("x", `"p, q"`, "z w")), "a")
		checkValue(t, of(`"p ,q","r,\",\t s",x`), lines("a", join(`"p ,q"`, `"r,\",\t s"`, "x")), "a")
		checkValue(t, of(`x,"p,,q ,`), lines("a", join("x", `"p,,q ,`)), "a")
		checkValue(t, of(`"x\\",y`), lines("a", join(`"x\\"`, "y")), "a")
	}
	// The parts are neither ordered, nor told once, nor lowered.
	checkValue(t, of("b,a,B,b,A"), lines("a", "b, a, B, b, A"), "a")
}

func TestSeveralLines(t *testing.T) {
	checkValue(t, of("x,y"), lines("a", "x", "y"), "a")
	checkValue(t, of("y,x"), lines("a", "y", "x"), "a")
	checkValue(t, of("x,x"), lines("a", "x", "x"), "a")
	checkValue(t, of("x,y,z"), lines("a", "x ,", "", ", y,", " ", "z"), "a")
	checkValue(t, of(`x,y,"p, q"`), lines("a", "x ,  y", `"p, q"`), "a")
	// A quoted part goes on in the next line, where the comma and the space between the lines are within it.
	checkValue(t, of(`"x, y",z`), lines("a", `"x`, `y"`, "z"), "a")
	checkValue(t, of(`"x , , y`), lines("a", `"x `, "", "y"), "a")
	l := slices.Concat(others("n"), lines("a", "x"), lines("b", "m"), lines("a", "y ,", ",z"), others("n"), lines("b", ""), lines("a", "w"))
	checkValue(t, of("x,y,z,w"), l, "a")
	checkValue(t, of("m"), l, "b")
	checkValue(t, absent, l, "c")
}

// P15.2, by the words.

func TestValuesOfAllShortTexts(t *testing.T) {
	differ := 0
	check := func(s string) {
		want := toldByWords(lines("a", s), "a")
		checkValue(t, want, lines("a", s), "a")
		if want.value != s {
			differ++
		}
		// What a value tells, it tells again.
		checkValue(t, want, lines("a", want.value), "a")
	}
	eachText([]string{"x", ",", `"`, `\`, " "}, 7, check)
	eachText([]string{"x", ",", "\t", " ", `"y, z"`, "-"}, 6, check)
	for c := range 256 {
		s := string([]byte{byte(c)})
		eachText([]string{s, ",", " "}, 5, check)
		eachText([]string{s, `"`, ", "}, 5, check)
	}
	if differ < 10000 {
		t.Error("too few have anything left out:", differ)
	}
}

func TestValuesOfAllShortListsOfFields(t *testing.T) {
	eachList(append(lines("a", "", "x", "x ,y,", `"`, `"p" ,`), fields("b", "x", "b", ", z", "A", "x", "", "x")...), 5, func(l []api.Field) {
		for _, name := range []string{"a", "b", "c", "A", ""} {
			checkValue(t, toldByWords(l, name), l, name)
		}
	})
}

// P0: many fields, and long ones.

func TestLongValues(t *testing.T) {
	want := strings.TrimSuffix(strings.Repeat("x,y,", many), ",")
	checkValue(t, of(want), lines("a", strings.Repeat("x , y,\t,", many)), "a")
	checkValue(t, of(want), slices.Repeat(append(lines("a", "x", "", "y ,"), others("z")...), many), "a")
	checkValue(t, of(strings.Repeat("x", many)), lines("a", strings.Repeat("x", many)+strings.Repeat(" ", many)), "a")
	quoted := `"` + strings.Repeat(" , ", many)
	checkValue(t, of(quoted+`"`), lines("a", quoted+`" ,`), "a")
	checkValue(t, of(strings.TrimRight(quoted, " ")), lines("a", quoted), "a")
}
