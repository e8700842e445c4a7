package legacy_test

import (
	"slices"
	"strings"
	"sync"
	"testing"

	"scullery/api"
	"scullery/legacy"
)

// P10.1: None.

func TestNone(t *testing.T) {
	want := legacy.Rules{MaxAge: -1, SMaxAge: -1, MaxStale: -1, MinFresh: -1, StaleIfError: -1}
	if got := legacy.None(); got != want {
		t.Errorf("None() = %+v", got)
	}
	checkOf(t, want)
	checkOf(t, want, []legacy.Directive{}...)
}

// P10.1: Of.

func TestDirectivesThatSetABool(t *testing.T) {
	for _, name := range boolNames {
		want := changedRules(func(r *legacy.Rules) { *boolOf(r, name) = true })
		for _, d := range []legacy.Directive{bare(name), with(name, ""), with(name, "x"), with(name, "0"), with(name, "false"), with(name, "a, b")} {
			checkOf(t, want, d)
			checkOf(t, want, bare("x"), d, bare("y"))
			checkOf(t, want, d, d)
		}
	}
}

func TestDirectivesThatSetANumber(t *testing.T) {
	for _, name := range numberNames {
		for value, want := range map[string]int{
			"0": 0, "1": 1, "9": 9, "60": 60, "00": 0, "007": 7, "31536000": 31536000,
			// At the limit, and beyond.
			"2147483646": 2147483646, "2147483647": 2147483647, "2147483648": 2147483648, "2147483649": 2147483648, "4294967295": 2147483648, "4294967296": 2147483648, "9223372036854775807": 2147483648, "9223372036854775808": 2147483648, "18446744073709551616": 2147483648, "99999999999": 2147483648, strings.Repeat("9", 1000): 2147483648, strings.Repeat("0", 1000) + "5": 5,
			// What is no number.
			"": 0, "x": 0, "-1": 0, "+1": 0, "1.5": 0, "1e3": 0, "0x10": 0, "5x": 0, "x5": 0, "5 ": 0, " 5": 0, "5 5": 0, "1_000": 0, "1,000": 0, "\u0665": 0, "\xff": 0, `"5"`: 0, "60s": 0,
		} {
			checkOf(t, changedRules(func(r *legacy.Rules) { *numberOf(r, name) = want }), with(name, value))
		}
		without := changedRules(func(r *legacy.Rules) { *numberOf(r, name) = 0 })
		if name == "max-stale" {
			without.MaxStale = 2147483648
		}
		checkOf(t, without, bare(name))
		checkOf(t, without, bare("x"), bare(name), with(name, "5"))
		// A value that is not told to be there counts for none but max-stale.
		value := legacy.Directive{Name: name, Value: "5"}
		if name != "max-stale" {
			without = changedRules(func(r *legacy.Rules) { *numberOf(r, name) = 5 })
		}
		checkOf(t, without, value)
	}
}

func TestDirectivesThatAreNotRecognized(t *testing.T) {
	for _, name := range []string{
		"", "x", "no-transform", "must-understand", "stale-while-revalidate", "no-stores", "no-stor", "nostore", "no_store", "maxage", "max-age-", "max-age=60", "s-max-age", "smaxage", "immutable ", " immutable", "privat", "revalidate", "only-if-cache", "stale-if-errors", "min-age", "max-fresh", "min-stale", "no-cache\x00",
		// Of takes names as they are; Parse has them in lower case.
		"No-Store", "NO-CACHE", "Private", "Max-Age", "MAX-STALE", "mAx-age",
	} {
		for _, d := range []legacy.Directive{bare(name), with(name, ""), with(name, "5")} {
			checkOf(t, none(), d)
			checkOf(t, changedRules(func(r *legacy.Rules) { r.NoStore, r.MaxAge = true, 7 }), d, bare("no-store"), d, with("max-age", "7"), d)
		}
	}
}

// TestAllDirectivesAtOnce has each rule told by the directive of its name and by no other.
func TestAllDirectivesAtOnce(t *testing.T) {
	var l []legacy.Directive
	for _, name := range boolNames {
		l = append(l, bare(name))
	}
	for i, name := range numberNames {
		l = append(l, with(name, string(rune('1'+i))))
	}
	checkOf(t, legacy.Rules{NoStore: true, NoCache: true, Private: true, Public: true, MustRevalidate: true, ProxyRevalidate: true, Immutable: true, OnlyIfCached: true, MaxAge: 1, SMaxAge: 2, MaxStale: 3, MinFresh: 4, StaleIfError: 5}, l...)
	for i := range l {
		rest := slices.Delete(slices.Clone(l), i, i+1)
		checkOf(t, ofByWords(rest), rest...)
	}
	slices.Reverse(l)
	checkOf(t, ofByWords(l), l...)
}

func TestTheFirstOfANameCounts(t *testing.T) {
	number := func(n int) legacy.Rules { return changedRules(func(r *legacy.Rules) { r.MaxAge = n }) }
	checkOf(t, number(60), with("max-age", "60"), with("max-age", "5"))
	checkOf(t, number(5), with("max-age", "5"), with("max-age", "60"))
	checkOf(t, number(0), with("max-age", "x"), with("max-age", "60"))
	checkOf(t, number(60), with("max-age", "60"), with("max-age", "x"))
	checkOf(t, number(0), bare("max-age"), with("max-age", "60"))
	checkOf(t, number(60), with("max-age", "60"), bare("max-age"))
	checkOf(t, number(0), with("max-age", ""), with("max-age", "60"))
	checkOf(t, number(0), with("max-age", "0"), with("max-age", "60"))
	checkOf(t, number(7), with("x", "1"), with("max-age", "7"), with("x", "2"), with("max-age", "8"), with("max-age", "9"))
	stale := func(n int) legacy.Rules { return changedRules(func(r *legacy.Rules) { r.MaxStale = n }) }
	checkOf(t, stale(api.Top), bare("max-stale"), with("max-stale", "5"))
	checkOf(t, stale(5), with("max-stale", "5"), bare("max-stale"))
	checkOf(t, stale(0), with("max-stale", ""), bare("max-stale"))
}

// P10.1: Read.

func TestRead(t *testing.T) {
	control := func(value string) api.Field { return api.Field{Name: "cache-control", Value: value} }
	other := func(name string) api.Field { return api.Field{Name: name, Value: "no-store, max-age=5"} }
	age := func(n int) legacy.Rules { return changedRules(func(r *legacy.Rules) { r.MaxAge = n }) }
	// None.
	checkRead(t, none())
	checkRead(t, none(), other("pragma"), other("cache-contro"), other("cache-controls"), other(""), other("cdn-cache-control"), other("Cache-Control"), other("cache_control"))
	// Without directives.
	checkRead(t, none(), control(""))
	checkRead(t, none(), control(", ,"), control(""))
	checkRead(t, none(), control("x, =5, max-age=, no-store x"))
	// One.
	checkRead(t, age(60), control("max-age=60"))
	checkRead(t, age(60), other("pragma"), control("MAX-AGE=60, max-age=5"), other("age"))
	checkRead(t, age(60), control(`max-age="60"`))
	checkRead(t, age(60), control(`max-age="\60"`))
	checkRead(t, age(0), control(`max-age="60 "`))
	checkRead(t, age(0), control(`max-age=""`))
	checkRead(t, age(0), control(`max-age`))
	checkRead(t, age(5), control(`max-age=, max-age = 9, max-age=5`))
	checkRead(t, changedRules(func(r *legacy.Rules) { r.MaxAge, r.NoStore = 60, true }), control("max-age=60, max-age=5, NO-STORE"))
	// max-stale.
	checkRead(t, changedRules(func(r *legacy.Rules) { r.MaxStale = 2147483648 }), control("max-stale"))
	checkRead(t, none(), control("max-stale="))
	checkRead(t, changedRules(func(r *legacy.Rules) { r.MaxStale = 0 }), control(`max-stale=""`))
	checkRead(t, changedRules(func(r *legacy.Rules) { r.MaxStale = 9 }), control("Max-Stale=9"))
	// More than one: the value is that of all of them, so that a quoted part may go on in the next.
	checkRead(t, changedRules(func(r *legacy.Rules) { r.MaxAge, r.Public = 60, true }), control("max-age=60"), other("x"), control("max-age=5, public"))
	checkRead(t, age(5), control("max-age=5"), control("max-age=60"))
	checkRead(t, changedRules(func(r *legacy.Rules) { r.NoStore = true }), control(`x="a`), control(`b", no-store`))
	checkRead(t, none(), control(`x="a`), control("no-store"))
	checkRead(t, changedRules(func(r *legacy.Rules) { r.NoStore = true }), control(`x="a`), control("private"), control(`", no-store`), control(`"`), control("public"))
	checkRead(t, none(), control("max-age"+"="), control("60"))
}

func TestReadOfEachName(t *testing.T) {
	for _, name := range append(slices.Clone(boolNames), numberNames...) {
		for _, text := range []string{name, strings.ToUpper(name), strings.ToUpper(name[:1]) + name[1:]} {
			for _, value := range []string{"", "=5", "=x", `="5"`, `="5, 6"`, `=""`, "=", `="5`, "=99999999999"} {
				want := ofByWords(parseByForm(text + value))
				checkRead(t, want, api.Field{Name: "cache-control", Value: text + value})
				checkRead(t, want, api.Field{Name: "cache-control", Value: "x"}, api.Field{Name: "cache-control", Value: text + value})
			}
		}
	}
}

func TestAllShortLists(t *testing.T) {
	pieces := []string{"no-store", "max-age=5", "max-age=6", "Max-Age", "max-stale", "MAX-STALE=7", "private=x", `min-fresh="8"`, "x=9", "max-age="}
	for _, s := range texts([]string{"0", "1", "2", "3", "4", "5", "6", "7", "8", "9"}, 4) {
		var parts []string
		var fields []api.Field
		for _, c := range s {
			parts = append(parts, pieces[c-'0'])
			fields = append(fields, api.Field{Name: "cache-control", Value: pieces[c-'0']})
		}
		l := checkParseByForm(t, strings.Join(parts, ","))
		want := ofByWords(l)
		checkOf(t, want, l...)
		checkRead(t, want, fields...)
		checkRead(t, want, api.Field{Name: "cache-control", Value: strings.Join(parts, " ,")})
	}
}

// P10.2: the theorem.

// choices are directives, some with the same name.
func choices() []legacy.Directive {
	l := []legacy.Directive{bare("x"), with("x", "1"), bare(""), {Value: "5"}, {Name: "max-stale", Value: "5"}}
	for _, name := range boolNames {
		l = append(l, bare(name), with(name, "x"))
	}
	for _, name := range numberNames {
		l = append(l, bare(name), with(name, "5"), with(name, "6"), with(name, "x"), with(name, ""))
	}
	return l
}

func checkSame(t *testing.T, first, second []legacy.Directive) {
	if legacy.Of(first) != legacy.Of(second) {
		t.Helper()
		t.Errorf("Of(%s) and Of(%s) are not the same", brief(first), brief(second))
	}
}

func TestALaterDirectiveOfTheSameNameChangesNothing(t *testing.T) {
	for _, a := range choices() {
		for _, b := range choices() {
			checkOf(t, ofByWords([]legacy.Directive{a, b}), a, b)
			for _, later := range choices() {
				switch later.Name {
				case a.Name:
					checkSame(t, []legacy.Directive{a, b}, []legacy.Directive{a, b, later})
					checkSame(t, []legacy.Directive{a, b}, []legacy.Directive{a, later, b})
				case b.Name:
					checkSame(t, []legacy.Directive{a, b}, []legacy.Directive{a, b, later})
				}
			}
		}
	}
}

func TestExchangingDirectivesOfDifferentNamesChangesNothing(t *testing.T) {
	for _, a := range choices() {
		for _, b := range choices() {
			if a.Name == b.Name {
				continue
			}
			checkSame(t, []legacy.Directive{a, b}, []legacy.Directive{b, a})
			for _, c := range choices() {
				checkSame(t, []legacy.Directive{a, b, c}, []legacy.Directive{b, a, c})
				checkSame(t, []legacy.Directive{c, a, b}, []legacy.Directive{c, b, a})
			}
		}
	}
}

func TestManyDirectives(t *testing.T) {
	const many = 200000
	var l []legacy.Directive
	for i := range many {
		l = append(l, with("x"+strings.Repeat("y", i%7)+string(rune('a'+i%26))+string(rune(0x4e00+i%20000)), "1"), with("max-age", "5"), bare("no-cache"))
	}
	checkOf(t, changedRules(func(r *legacy.Rules) { r.MaxAge, r.NoCache = 5, true }), l...)
	slices.Reverse(l)
	checkOf(t, changedRules(func(r *legacy.Rules) { r.MaxAge, r.NoCache, r.Public = 5, true, true }), append(l, bare("public"))...)
}

// R3: what is given stays as it is, and an answer is the caller's.

func TestArgumentsStay(t *testing.T) {
	l := []legacy.Directive{with("max-age", "5"), bare("no-store"), with("max-age", "6")}
	same := slices.Clone(l)
	legacy.Of(l)
	if !slices.Equal(l, same) {
		t.Error("Of changed its directives:", l)
	}
	fields := []api.Field{{Name: "cache-control", Value: "a"}, {Name: "cache-control", Value: "b"}}
	sameFields := slices.Clone(fields)
	legacy.Read(fields)
	if !slices.Equal(fields, sameFields) {
		t.Error("Read changed its fields:", fields)
	}
	first, second := legacy.Parse("a=1, b"), legacy.Parse("a=1, b")
	first[0] = bare("x")
	first = append(first[:1], bare("y"))
	if !slices.Equal(second, []legacy.Directive{with("a", "1"), bare("b")}) || len(first) != 2 {
		t.Error("two answers of Parse share memory:", second)
	}
}

// R4 and R5: the same call answers the same again, beside calls from other goroutines too.

func TestCallsAtTheSameTime(t *testing.T) {
	text := strings.Repeat(`x="\"a, b", Max-Age=60, max-age=5, NO-STORE, `, 20)
	want := changedRules(func(r *legacy.Rules) { r.MaxAge, r.NoStore = 60, true })
	var group sync.WaitGroup
	for range 8 {
		group.Go(func() {
			for range 200 {
				l := legacy.Parse(text)
				if len(l) != 80 || legacy.Of(l) != want || legacy.Read([]api.Field{{Name: "cache-control", Value: text}}) != want || legacy.None() != none() {
					t.Error("another answer beside other calls")
				}
			}
		})
	}
	group.Wait()
}
