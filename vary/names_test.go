package vary_test

import (
	"fmt"
	"slices"
	"strings"
	"testing"

	"scullery/api"
	"scullery/vary"
)

// P15.1: fields that tell no names.

func TestFieldsWithoutVary(t *testing.T) {
	checkNames(t, nil)
	for _, value := range []string{"", "a", "*", "a b", "a, *"} {
		checkNames(t, others(value))
		for _, other := range others(value) {
			checkNames(t, lines(other.Name, value, value))
		}
	}
}

func TestVaryWithoutParts(t *testing.T) {
	for _, value := range []string{"", " ", "\t", " \t ", ",", ",,", ", ,", " , ", "\t,\t,\t", strings.Repeat(",", many), strings.Repeat(" ", many), strings.Repeat(", \t", many)} {
		checkNames(t, lines("vary", value))
		checkNames(t, lines("vary", value, value))
		checkNames(t, lines("vary", "", value, ","))
		checkNames(t, slices.Concat(others("*"), lines("vary", value), others("a")))
	}
}

// P15.1: names.

func TestOneName(t *testing.T) {
	for value, want := range map[string]string{
		"a": "a", "accept": "accept", "accept-encoding": "accept-encoding", "x_y.z": "x_y.z", "1": "1", "-": "-", "+": "+", "vary": "vary", "~|`^": "~|`^",
		"A": "a", "Accept": "accept", "ACCEPT-Language": "accept-language", "X1Y": "x1y", "Az_Za": "az_za",
		// A star beside something is as other bytes of tokens.
		"**": "**", "*a": "*a", "A*": "a*", "a*b": "a*b", "*-": "*-",
	} {
		checkNames(t, lines("vary", value), want)
		checkNames(t, slices.Concat(others("*"), lines("vary", value), others("b")), want)
		for _, more := range []string{" %s", "%s ", "\t%s\t", ",%s", "%s,", " , %s ,\t", ",,%s,,"} {
			checkNames(t, lines("vary", fmt.Sprintf(more, value)), want)
		}
	}
}

func TestTheExampleOfNames(t *testing.T) {
	checkNames(t, lines("vary", "b, A,b"), "a", "b")
}

func TestSeveralNames(t *testing.T) {
	for _, separator := range []string{",", ", ", " ,", "\t,\t", ",,", " , ,\t, "} {
		checkNames(t, lines("vary", "a"+separator+"b"), "a", "b")
		checkNames(t, lines("vary", "b"+separator+"a"), "a", "b")
		checkNames(t, lines("vary", separator+"C"+separator+"b"+separator+"A"+separator), "a", "b", "c")
		checkNames(t, lines("vary", "b"+separator+"a", separator, "c"+separator+"B"), "a", "b", "c")
	}
}

func TestNamesOnSeveralLines(t *testing.T) {
	checkNames(t, lines("vary", "b", "a"), "a", "b")
	checkNames(t, lines("vary", "b, d", "", "a,", ",c"), "a", "b", "c", "d")
	checkNames(t, lines("vary", "a", "A", "a, a"), "a")
	// A line does not go on in the next one.
	checkNames(t, lines("vary", "ac", "cept"), "ac", "cept")
	checkNames(t, slices.Concat(lines("vary", "c"), others("*"), lines("vary", "b"), others("x y"), lines("vary", "a")), "a", "b", "c")
}

func TestEachNameOccursOnce(t *testing.T) {
	for _, value := range []string{"a,a", "a, a", "A,a", "a,A", "A,A", "a,a,a", "a,A,a,A", ",a,,A,"} {
		checkNames(t, lines("vary", value), "a")
		checkNames(t, lines("vary", value, value), "a")
		checkNames(t, lines("vary", "B", value, "b"), "a", "b")
	}
	checkNames(t, lines("vary", "accept, Accept-Encoding, ACCEPT, accept-encoding, aCCEPT"), "accept", "accept-encoding")
	checkNames(t, lines("vary", "a,b,a,c,B,a"), "a", "b", "c")
	// Those that differ in more than that are different names.
	checkNames(t, lines("vary", "a-b, a_b, ab, a, b"), "a", "a-b", "a_b", "ab", "b")
	checkNames(t, lines("vary", "`, ^, ~, |, a, _, -, +"), "+", "-", "^", "_", "`", "a", "|", "~")
}

func TestNamesAreInByteOrder(t *testing.T) {
	for _, names := range [][]string{
		{"a", "aa", "ab", "b", "ba", "c"},
		{"accept", "accept-", "accept-encoding", "accept-language", "accept1", "accept_"},
		{"!", "#", "**", "-", "0", "|"},
		{"1", "10", "100", "2", "20", "9"},
		{"a", "a!", "a-", "a.", "a0", "a~"},
		// Those ahead of small letters and behind large ones.
		{"^", "_", "`", "a", "z", "|"},
	} {
		eachOrder(names, func(order []string) {
			text := strings.Join(order, ",")
			checkNames(t, lines("vary", text), names...)
			checkNames(t, lines("vary", strings.ToUpper(text)), names...)
			checkNames(t, lines("vary", strings.ToUpper(order[0]), strings.Join(order[1:], ", ")), names...)
		})
	}
	checkNames(t, lines("vary", "Z, _, a, ^, B, `"), "^", "_", "`", "a", "b", "z")
}

func TestManyNames(t *testing.T) {
	var names, again []string
	for i := range many {
		names = append(names, fmt.Sprintf("n%06d", i))
		again = append(again, fmt.Sprintf("N%06d", many-1-i))
	}
	checkNames(t, lines("vary", strings.Join(again, ",")), names...)
	checkNames(t, lines("vary", strings.Join(again, ", "), strings.Join(names, " ,")), names...)
	checkNames(t, lines("vary", again...), names...)
	checkAll(t, lines("vary", append(again, "*")...))
	checkAll(t, lines("vary", strings.Join(names, ",")+",a b"))
	checkNames(t, lines("vary", strings.Repeat("A,a,", many)), "a")
	long := strings.Repeat("a", many)
	checkNames(t, lines("vary", long+"b", strings.ToUpper(long)), long, long+"b")
}

// P15.1: a star, and parts that are no tokens.

func TestAStar(t *testing.T) {
	for _, values := range [][]string{
		{"*"}, {" *"}, {"*\t"}, {",*,"}, {", * ,"}, {"*,*"},
		// First, last and amid others, on one line or several.
		{"*, a"}, {"*,a,b"}, {"a, *"}, {"a,b,*"}, {"a, *, b"}, {"a,*,b,*"}, {"*", "a"}, {"a", "*"}, {"a", "*", "b"}, {"a", "b, *", "c"}, {"", "*"}, {"*", ""},
		// Beside a part that is no token, and beside a name with a star.
		{"*, a b"}, {"a b, *"}, {"a, *, \"b\""}, {"\"a\"", "*"}, {"**, *"}, {"*, *a"},
	} {
		checkAll(t, lines("vary", values...))
		checkAll(t, slices.Concat(others("a"), lines("vary", values...), others("")))
	}
}

func TestPartsThatAreNoTokens(t *testing.T) {
	for _, part := range []string{
		"a b", "a\tb", "* *", "* a", "a *", "a=b", "a;b", "a:b", "a/b", "a@b", "(a)", "[a]", "{a}", "<a>", "a?", "\\", "a\\", "a\\b", "\\*",
		`"`, `""`, `"a"`, `"*"`, `"a,b"`, `a"b"`, `"a`, `"a\"`, `",`, `a"`, `"a"b`,
		"a\x00", "\x00", "\x7f", "a\x7f", "\x80", "\xff", "a\xc4", "\u00e4", "\u00c4", "a\u00a0", "\u2a4e", "\uff0a", "a\r", "\n", "a\nb", "\v", "\f",
	} {
		checkAll(t, lines("vary", part))
		checkAll(t, lines("vary", " "+part+"\t"))
		checkAll(t, lines("vary", part+", a"))
		checkAll(t, lines("vary", "a, "+part))
		checkAll(t, lines("vary", "a,"+part+",b"))
		checkAll(t, lines("vary", "a", part, "b"))
		checkAll(t, lines("vary", part, part))
		checkAll(t, slices.Concat(others("a"), lines("vary", part, "a"), others("a")))
	}
	// A quoted part goes on in the next line.
	checkAll(t, lines("vary", `"a`, `b"`))
	checkAll(t, lines("vary", `a, "`, `", b`))
}

func TestEachByteInAName(t *testing.T) {
	counts := map[int]int{}
	for c := range 256 {
		s := string([]byte{byte(c)})
		for _, value := range []string{s, s + s, "a" + s, s + "a", "a" + s + "b", "b, a" + s, "Y," + s + ",x", "a" + s + ",b" + s} {
			for _, l := range [][]string{{value}, {value, "c"}, {"C", value}} {
				counts[checkNamesByWords(t, lines("vary", l...))]++
			}
		}
	}
	if counts[-1] < 1000 || counts[1] < 100 || counts[2] < 500 || counts[3] < 100 {
		t.Error("too few of one kind:", counts)
	}
}

// P15.1, by the words.

func TestNamesOfAllShortTexts(t *testing.T) {
	counts := map[int]int{}
	check := func(s string) { counts[checkNamesByWords(t, lines("vary", s))]++ }
	eachText([]string{"a", "B", ",", " ", "*", `"`}, 6, check)
	eachText([]string{"a,", "A", "b\t,", ",", "*", `"\`, "-"}, 6, check)
	eachText([]string{"a,", "A,", "b,", "C,", "-,"}, 6, check)
	if counts[-1] < 1000 || counts[0] < 100 || counts[1] < 1000 || counts[2] < 1000 || counts[3] < 1000 || counts[4] < 100 {
		t.Error("too few of one kind:", counts)
	}
}

func TestNamesOfAllShortListsOfFields(t *testing.T) {
	counts := map[int]int{}
	eachList(append(lines("vary", "", "a", "A, b", "c,B", "*", "x y", `"`), fields("Vary", "d", "var", "*", "a", "e")...), 5, func(l []api.Field) {
		counts[checkNamesByWords(t, l)]++
	})
	if counts[-1] < 1000 || counts[0] < 100 || counts[1] < 100 || counts[2] < 1000 || counts[3] < 1000 {
		t.Error("too few of one kind:", counts)
	}
}

// R3 and R4: the names are new, and each time the same.

func TestNamesAreNewAndTheSame(t *testing.T) {
	l := lines("vary", "e, D, c", "B", "a, d")
	for range 100 {
		names, _ := vary.Names(l)
		if want := []string{"a", "b", "c", "d", "e"}; !slices.Equal(names, want) {
			t.Fatal(names)
		}
		names[0], names[4] = "x", ""
		_ = append(names[:2], "y")
	}
}
