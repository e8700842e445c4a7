package modern_test

import (
	"strconv"
	"strings"
	"testing"

	"scullery/api"
)

// P11.1: texts that are not effective.

func TestTextsThatAreNotEffective(t *testing.T) {
	checkNotEffective(t,
		// Without an entry.
		"", " ", "     ",
		// Blanks that are no spaces.
		"\t", " \t", "\t ", "\r\n", "\x00", "\u00a0",
		// Commas without an entry beside them.
		",", " ,", ", ", ",,", "a,", "a, ", ",a", " , a", "a,,b", "a, ,b", "max-age=5,", "max-age=5, ", ",max-age=5", "max-age=5,,no-store",
		// No key.
		"5", "-", "=", "=5", "?1", "\"a\"", "(a)", "(max-age=5)", "_a", ".a", ":a:", ";max-age=5", "\u00e9=5", "\xff",
		// Keys in upper case.
		"A", "Max-Age=5", "MAX-AGE=5", "max-Age=5", "max-agE", "No-Store", "no-storE", "X, max-age=5", "max-age=5, X", "max-age=5, NO-STORE", "max-age=5;X",
		// No value behind the =, or one that is none.
		"max-age=", "max-age= ", "max-age=,no-store", "max-age=;a", "max-age==5", "max-age=-", "max-age=+5", "max-age=--5", "max-age=5.", "max-age=.5", "max-age=1.0000", "max-age=1.2.3", "max-age=?", "max-age=?2", "max-age=?11", "max-age=?t", "max-age=\"5", "max-age='5'", "max-age=\"\\5\"", "max-age=\"\u00e9\"", "max-age=:5:", "max-age=:NQ:", "max-age=:NQ=", "max-age=:NR==:", "max-age=@5",
		// More digits than there may be.
		"max-age=1000000000000000", "max-age=-1000000000000000", "max-age=0000000000000005", "max-age=99999999999999999999", "max-age=1000000000000.0", strings.Repeat("0", 1000),
		// No inner list.
		"max-age=(", "max-age=)", "max-age=(5", "max-age=5)", "max-age=((5))", "max-age=(5,6)", "max-age=(\t5)", "max-age=(5\t)", "max-age=(5)6", "max-age=(\"5\"\"6\")",
		// Something between a key and its value, or behind it.
		"max-age =5", "max-age= 5", "max-age = 5", "max-age\t=5", "max-age=\t5", "max-age:5", "max-age 5", "max-age=5 6", "max-age=5 no-store", "max-age=5 ;a", "max-age=60s", "max-age=5;", "max-age=5; ", "max-age=5;;a", "max-age=5;5", "max-age=5;a=", "max-age=5;a =1", "max-age=5;\ta", "no-store;", "no-store?1", "no-store=?1;",
		"max-age=5\r\n", "max-age=5\x00", "\tmax-age=5", "max-age=5;a=(1)",
		// One entry that is wrong among those that are right.
		"max-age=5, no-store=", "no-store=, max-age=5", "max-age=5, 5", "5, max-age=5", "max-age=5; no-store, =", "max-age=5\n, no-store", "max-age=, max-age=5", "max-age=5, max-age=",
	)
}

// P11.1: dictionaries whose entries set nothing.

func TestDictionariesWithoutDirectives(t *testing.T) {
	for _, s := range []string{
		"x", "*", "x=5", "x=?0", "x=(max-age)", "x=\"max-age=5, no-store\"", "x=max-age", "a,b,c", "  x  ", "x\t", "x;max-age=5", "x;no-store", "x;max-age=5;no-store=?1",
		// Names beside those of the directives.
		"no-transform", "must-understand", "stale-while-revalidate=5", "no-stor", "no-stores", "nostore", "no_store", "no.store", "no-store-", "maxage=5", "max_age=5", "max-ag=5", "max-age-=5", "max-ages=5", "s-max-age=5", "smaxage=5", "privat", "immutabl", "min-age=5", "max-fresh=5", "min-stale", "max-stal", "max-stales", "stale-if-errors=5", "stale-if-erro=5", "only-if-cache", "revalidate", "must-revalidat", "proxy-revalidates", "*no-store", "*max-age=5",
	} {
		checkParse(t, s, none())
	}
}

// P11.1: directives that set a bool.

func TestBools(t *testing.T) {
	for name := range bools {
		for _, text := range []string{"", "=?1", ";a", ";a=?0", "=?1;a", "=?1; a=5;b", ";" + name + "=?0", "=?1;max-age=5", "=?1;" + name + "=0", ";a=\"?0\""} {
			checkParse(t, name+text, none(set(name)))
			checkParse(t, "  "+name+text+" \t", none(set(name)))
			checkParse(t, "x=5,"+name+text+" ,\ty=?0", none(set(name)))
		}
		for _, text := range []string{"=?0", "=?0;a", "=?0;" + name, "=1", "=0", "=-1", "=5", "=1.0", "=0.1", `=""`, `="?1"`, `="1"`, `="true"`, "=true", "=T", "=t", "=*", "=" + name, "=::", "=:PzE=:", "=:AQ==:", "=()", "=(?1)", "=(?1 ?1)", "=();a", "=(1);a", "=(?0)", "=(" + name + ")", "=();" + name} {
			checkParse(t, name+text, none())
			checkParse(t, name+text+";x=?1", none())
			checkParse(t, "y, "+name+text, none())
		}
	}
}

// P11.1: directives that set a number.

func TestNumbers(t *testing.T) {
	for name := range numbers {
		for text, n := range map[string]int{
			"0": 0, "1": 1, "5": 5, "60": 60, "31536000": 31536000, "-0": 0, "-000": 0, "00": 0, "007": 7, "000000000000005": 5,
			// At the limit, and beyond.
			"2147483647": 2147483647, "2147483648": 2147483648, "2147483649": 2147483648, "002147483647": 2147483647, "4294967295": 2147483648, "4294967296": 2147483648, "4294967301": 2147483648, "99999999999": 2147483648, "999999999999999": 2147483648,
		} {
			for _, behind := range []string{"", ";a", ";a=5", "; a=1.5;b=\"c\"", ";" + name + "=7", ";max-age=8", ";no-store", ";a=?0", ";max-stale"} {
				checkParse(t, name+"="+text+behind, none(to(name, n)))
				checkParse(t, "x=5,"+name+"="+text+behind+"\t, y", none(to(name, n)))
			}
		}
		for _, text := range []string{"-1", "-5", "-01", "-2147483648", "-4294967296", "-999999999999999", "0.0", "1.0", "5.0", "-0.0", "5.5", "999999999999.999", "-1.0", "?0", `""`, `"5"`, `"0"`, `"?1"`, "x", "x5", "*5", "::", ":NQ==:", ":NTU=:", "()", "(5)", "(?1)", "(5 5)", "( 5 )", "(\"5\")"} {
			checkParse(t, name+"="+text, none())
			checkParse(t, name+"="+text+";a=5", none())
			checkParse(t, name+"="+text+";"+name+"=5", none())
			checkParse(t, "x=5, "+name+"="+text+", y=5", none())
		}
	}
}

func TestBooleansOfNumbers(t *testing.T) {
	for name := range numbers {
		want := none()
		if name == "max-stale" {
			want = none(to(name, 2147483648))
		}
		for _, text := range []string{"", "=?1", ";a", "=?1;a", ";a=5", ";a=?0", ";" + name + "=5", "=?1;" + name + "=?0"} {
			checkParse(t, name+text, want)
			checkParse(t, "x=?0, "+name+text+",y", want)
		}
		checkParse(t, name+"=?0", none())
		checkParse(t, name+"=?0;a", none())
	}
}

// P11.1: more than one entry.

func TestAllDirectivesAtOnce(t *testing.T) {
	var entries []string
	all := none()
	for name := range bools {
		entries = append(entries, name)
		set(name)(&all)
	}
	for name := range numbers {
		n := 10 + len(entries)
		entries = append(entries, name+"="+strconv.Itoa(n))
		to(name, n)(&all)
	}
	checkParse(t, strings.Join(entries, ","), all)
	for i := range entries {
		rest := strings.Join(append(entries[i+1:len(entries):len(entries)], entries[:i]...), ", ")
		checkParseByForm(t, rest)
		checkParse(t, entries[i]+" , "+rest, all)
		checkParse(t, rest+",\t"+entries[i], all)
	}
}

func TestEntriesThatComeAgain(t *testing.T) {
	for name := range bools {
		on, off := none(set(name)), none()
		checkParse(t, name+", "+name, on)
		checkParse(t, name+"=?0, "+name, on)
		checkParse(t, name+", "+name+"=?0", off)
		checkParse(t, name+"=(?1), "+name+"=?1", on)
		checkParse(t, name+", "+name+"=(?1)", off)
		checkParse(t, name+", x, "+name+"=1;a", off)
		checkParse(t, name+"=1, x=?0, "+name+";a", on)
		checkParse(t, name+"=?0, "+name+", "+name+"=?0", off)
		checkParse(t, name+", "+name+"=?0, "+name, on)
		// Behind the first place, others count as before.
		checkParse(t, name+"=?0, max-age=5, "+name, none(set(name), to("max-age", 5)))
	}
	for name := range numbers {
		checkParse(t, name+"=5, "+name+"=60", none(to(name, 60)))
		checkParse(t, name+"=60, "+name+"=5", none(to(name, 5)))
		checkParse(t, name+"=60, "+name+"=0", none(to(name, 0)))
		checkParse(t, name+"=1, x, "+name+"=2, y, "+name+"=3;a", none(to(name, 3)))
		for _, text := range []string{"=-1", "=?0", "=5.0", `="5"`, "=x", "=:NQ==:", "=(5)", "=()"} {
			// One that does not count replaces one that does.
			checkParse(t, name+"=60, "+name+text, none())
			checkParse(t, name+text+", "+name+"=60", none(to(name, 60)))
		}
	}
	checkParse(t, "max-stale, max-stale=5", none(to("max-stale", 5)))
	checkParse(t, "max-stale=5, max-stale", none(to("max-stale", api.Top)))
	checkParse(t, "max-stale, max-stale=?0", none())
	checkParse(t, "max-stale, max-stale=-1", none())
	checkParse(t, "max-stale=5, max-stale=(?1)", none())
	checkParse(t, "max-age=5, max-age", none())
	checkParse(t, "max-age, max-age=5", none(to("max-age", 5)))
}

func TestTheExampleOfTheChapter(t *testing.T) {
	checkParse(t, "max-age=60, no-store=?0", none(to("max-age", 60)))
}

// P11.1, by the form.

func TestAllShortDictionaries(t *testing.T) {
	some := 0
	check := func(parts []string) {
		if checkParseByForm(t, strings.Join(parts, "")) {
			some++
		}
	}
	eachList([]string{"max-age", "no-store", "=", "5", "?", ",", ";"}, 6, check)
	eachList([]string{"max-stale", "=", "?1", "-", "0", "(", ")", " "}, 6, check)
	eachList([]string{"public", "max-age=5", "=\"", "\"", "\\", ",", "\t", "X"}, 5, check)
	eachList([]string{"s-maxage=", "immutable", ":", "NQ==", "1", ".", ",private"}, 6, check)
	if some < 1000 {
		t.Error("too few of them set a rule:", some)
	}
}

func TestAllShortListsOfEntries(t *testing.T) {
	var entries []string
	for _, name := range []string{"no-cache", "max-age", "max-stale", "x"} {
		for _, value := range []string{"", "=?0", "=5", "=-5", "=(5)", "=6;no-cache"} {
			entries = append(entries, name+value)
		}
	}
	eachList(entries, 3, func(l []string) {
		checkParseByForm(t, strings.Join(l, ", "))
		checkParseByForm(t, " "+strings.Join(l, "\t,"))
	})
}

// TestEachNameWithEachValue has every rule set by the entry of its name, and by no other.
func TestEachNameWithEachValue(t *testing.T) {
	names := []string{"x", "max", "age", "Max-Age"}
	for name := range bools {
		names = append(names, name)
	}
	for name := range numbers {
		names = append(names, name)
	}
	values := []string{"", "=", "=?1", "=?0", "=0", "=5", "=-5", "=2147483649", "=5.0", `="5"`, "=x", "=:NQ==:", "=(5)", "=(?1)", "=?", "=5;a", ";a=5"}
	for _, first := range names {
		for _, second := range names {
			for _, value := range values {
				checkParseByForm(t, first+value+","+second)
				checkParseByForm(t, first+"=7, "+second+value)
				checkParseByForm(t, first+value+";"+second+"=8")
			}
		}
	}
}

func TestDictionariesWithOneChange(t *testing.T) {
	for _, s := range []string{"max-age=60", " no-store;a=?0 ,max-stale", "s-maxage=(1 2);b, public, s-maxage=2147483648", `min-fresh="5", immutable=?1;c="\"", private=:NQ==:`} {
		for i := range len(s) {
			checkParseByForm(t, s[:i])
			checkParseByForm(t, s[i:])
			checkParseByForm(t, s[:i]+s[i+1:])
			for c := range 256 {
				one := string([]byte{byte(c)})
				checkParseByForm(t, s[:i]+one+s[i+1:])
				checkParseByForm(t, s[:i]+one+s[i:])
				checkParseByForm(t, s+one)
			}
		}
	}
}

func TestLongDictionaries(t *testing.T) {
	const many = 200000
	checkParse(t, strings.Repeat("max-age=6, no-store, ", many)+"max-age=5, no-store=?0", none(to("max-age", 5)))
	checkParse(t, "max-age=("+strings.Repeat("5 ", many)+")", none())
	checkParse(t, "max-age=5"+strings.Repeat(";a=6", many), none(to("max-age", 5)))
	checkParse(t, "public;a=\""+strings.Repeat("x", many)+"\"", none(set("public")))
	checkNotEffective(t, strings.Repeat("max-age=5,", many), strings.Repeat(" ", many), strings.Repeat("(", many), "max-age="+strings.Repeat("5", many), "a=\""+strings.Repeat("\\\"", many))
	var text strings.Builder
	for i := range many {
		text.WriteString("x" + strconv.Itoa(i) + "=(a b);c, ")
	}
	checkParse(t, text.String()+"no-cache, stale-if-error=9", none(set("no-cache"), to("stale-if-error", 9)))
	checkNotEffective(t, text.String())
}

// P1: the rules that a text tells are parsed as they are told.

func TestParsingTheTextOfRules(t *testing.T) {
	for name := range numbers {
		for n := int64(1); n < 1e15; n = 3*n + n%2 {
			checkParse(t, name+"="+strconv.FormatInt(n, 10), none(to(name, int(min(n, api.Top)))))
			checkParse(t, name+"="+strconv.FormatInt(-n, 10), none())
		}
	}
}
