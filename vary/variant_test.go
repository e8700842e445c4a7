package vary_test

import (
	"fmt"
	"slices"
	"strings"
	"testing"

	"scullery/api"
	"scullery/vary"
)

// P15.3: the names.

func TestNoNames(t *testing.T) {
	for _, request := range [][]api.Field{nil, {}, lines("a", "x"), others("x")} {
		checkVariant(t, "", nil, request)
		checkVariant(t, "", []string{}, request)
	}
}

func TestOneNameOfARequest(t *testing.T) {
	for _, l := range [][]api.Field{nil, others("x"), lines("b", "x")} {
		checkVariant(t, "a:-;", []string{"a"}, l)
		checkVariant(t, "a:0:;", []string{"a"}, slices.Concat(l, lines("a", "")))
		checkVariant(t, "a:1:x;", []string{"a"}, slices.Concat(l, lines("a", "x")))
		checkVariant(t, "a:1:x;", []string{"a"}, slices.Concat(lines("a", "x"), l))
		checkVariant(t, "a:7:x,\"y,z\";", []string{"a"}, slices.Concat(lines("a", " x\t,"), l, lines("a", ` "y,z" ,`), l))
	}
	checkVariant(t, "accept-encoding:7:gzip,br;", []string{"accept-encoding"}, lines("accept-encoding", "gzip", "br"))
	// A value is neither lowered, nor ordered, nor told once.
	checkVariant(t, "a:9:Z,x,X,Z,z;", []string{"a"}, lines("a", "Z, x, X", "Z, z"))
	// Only spaces and tabs are blanks.
	checkVariant(t, "a:8:\nx\r,\v\u00a0\f;", []string{"a"}, lines("a", "\nx\r , \v\u00a0\f"))
}

func TestSeveralNamesOfARequest(t *testing.T) {
	request := fields("a", "x ,  y", "b", "", "a", `"p, q"`, "A", "z")
	checkVariant(t, `a:10:x,y,"p, q";b:0:;c:-;`, []string{"a", "b", "c"}, request)
	// In the order of the names, each as often as it is given.
	checkVariant(t, `c:-;b:0:;a:10:x,y,"p, q";`, []string{"c", "b", "a"}, request)
	checkVariant(t, `b:0:;b:0:;`, []string{"b", "b"}, request)
	checkVariant(t, `c:-;c:-;b:0:;c:-;`, []string{"c", "c", "b", "c"}, request)
	checkVariant(t, `a:10:x,y,"p, q";a:10:x,y,"p, q";`, []string{"a", "a"}, request)
	// A name is not lowered.
	checkVariant(t, `A:1:z;B:-;`, []string{"A", "B"}, request)
}

func TestAbsentBesideEmpty(t *testing.T) {
	names := []string{"a", "b"}
	for _, empty := range []string{"", " ", ",", " ,\t,"} {
		checkVariant(t, "a:-;b:0:;", names, lines("b", empty))
		checkVariant(t, "a:0:;b:-;", names, lines("a", empty))
		checkVariant(t, "a:0:;b:0:;", names, fields("b", empty, "a", empty))
	}
	checkVariant(t, "a:-;b:-;", names, nil)
	// A value may be what stands for an absent one.
	checkVariant(t, "a:1:-;b:-;", names, lines("a", "-"))
}

func TestLengthsOfValues(t *testing.T) {
	for length, text := range map[int]string{1: "1", 8: "8", 9: "9", 10: "10", 11: "11", 19: "19", 99: "99", 100: "100", 101: "101", 255: "255", 256: "256", 999: "999", 1000: "1000", 1000000: "1000000"} {
		value := strings.Repeat("x", length)
		checkVariant(t, "a:"+text+":"+value+";b:-;", []string{"a", "b"}, lines("a", value))
		// It is that of what is left of the value.
		checkVariant(t, "a:"+text+":"+value+";", []string{"a"}, lines("a", " \t,"+value+" , ", ""))
	}
	// In bytes, not in characters.
	checkVariant(t, "a:2:\u00e4;", []string{"a"}, lines("a", "\u00e4"))
	checkVariant(t, "a:4:\U0001f373;", []string{"a"}, lines("a", "\U0001f373"))
	checkVariant(t, "a:3:\xff\x80\xc4;", []string{"a"}, lines("a", "\xff\x80\xc4"))
	checkVariant(t, "a:12:\u00e4\u00e4,\u00e4,\u00e4\u00e4;", []string{"a"}, lines("a", "\u00e4\u00e4 , \u00e4", "\u00e4\u00e4"))
}

func TestValuesOfSeparators(t *testing.T) {
	for _, value := range []string{":", ";", "-", "-;", ":-;", "-;b:-", "0:", "0:;b:0:", "1:x;b:1:y", "10", "12:", "a:1:x;", ";b:-;", "b:-;;", `";,:"`, "3:-;-"} {
		counted := fmt.Sprintf("a:%d:%s;", len(value), value)
		checkVariant(t, counted, []string{"a"}, lines("a", value))
		checkVariant(t, counted+"b:-;", []string{"a", "b"}, lines("a", value))
		checkVariant(t, counted+"b:0:;", []string{"a", "b"}, fields("a", value, "b", ""))
		checkVariant(t, "b:-;"+counted+"c:-;", []string{"b", "a", "c"}, lines("a", value))
	}
	// Names may be as well what stands between.
	checkVariant(t, "-:-;0:0:;1:1:-;", []string{"-", "0", "1"}, fields("1", "-", "0", ""))
}

func TestNamesThatAreNoTokens(t *testing.T) {
	checkVariant(t, ":-;", []string{""}, lines("a", "x"))
	checkVariant(t, ":1:x;", []string{""}, lines("", "x"))
	checkVariant(t, "a b:-;a:1:x;", []string{"a b", "a"}, lines("a", "x"))
	checkVariant(t, " \ta :-;\n:-;", []string{" \ta ", "\n"}, lines("a", "x"))
	checkVariant(t, "*:1:x; :-;a,b:-;a;b:-;", []string{"*", " ", "a,b", "a;b"}, fields("*", "x", "a", "x", "b", "x"))
	checkVariant(t, "a:1:x;:1:y;", []string{"a:1:x;"}, fields("a", "x", "a:1:x;", "y"))
}

func TestManyNamesOfARequest(t *testing.T) {
	var names []string
	var request []api.Field
	var want strings.Builder
	for i := range many {
		name := fmt.Sprintf("n%d", i)
		names = append(names, name)
		switch {
		case i >= api.MostFields:
			want.WriteString(name + ":-;")
		case i%2 == 0:
			request = append(request, field(name, ""))
			want.WriteString(name + ":0:;")
		default:
			request = append(request, field(name, " x ,y"))
			want.WriteString(name + ":3:x,y;")
		}
	}
	slices.Reverse(request)
	checkVariant(t, want.String(), names, request)
	checkVariant(t, strings.Repeat("a:-;", many), slices.Repeat([]string{"a"}, many), request)
	checkVariant(t, "n1:3:x,y;b:-;", []string{"n1", "b"}, append(slices.Repeat(lines("a", "x"), many), request...))
}

// P15.3, by the words.

func TestVariantsOfAllShortListsOfFields(t *testing.T) {
	pool := append(lines("a", "", "x", " -, ", "x;b:-"), fields("b", "", "b", `y, "`, "c", "1:", "A", "x")...)
	eachList(pool, 4, func(request []api.Field) {
		eachList([]string{"a", "b", "A"}, 3, func(names []string) {
			checkVariant(t, variantByWords(names, request), names, request)
		})
	})
}

func TestVariantsOfAllShortTexts(t *testing.T) {
	names := []string{"b", "a", "c", "a"}
	check := func(s string) {
		for _, request := range [][]api.Field{lines("a", s), fields("a", s, "c", s), fields("b", "-", "a", s, "a", "z")} {
			checkVariant(t, variantByWords(names, request), names, request)
		}
	}
	eachText([]string{"-", ";", ":", "1", ",", " "}, 5, check)
	eachText([]string{"b:-;", "c:", "1:", "0:", ";", `"`}, 5, check)
}

// What Names returns, Variant takes.

func TestVariantsByTheFieldVary(t *testing.T) {
	for value, want := range map[string]string{"": "", ",": "", "c, A": "a:3:x,y;c:-;", "B,b,A": "a:3:x,y;b:0:;", "b": "b:0:;"} {
		names, all := vary.Names(lines("vary", value))
		if all {
			t.Errorf("Names(%q): all", value)
		}
		checkVariant(t, want, names, fields("b", "", "a", "x, y", "A", "z"))
	}
}
