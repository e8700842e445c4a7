package modern_test

import (
	"slices"
	"strings"
	"sync"
	"testing"

	"scullery/api"
	"scullery/head"
	"scullery/legacy"
	"scullery/modern"
)

func cdn(value string) api.Field { return api.Field{Name: "cdn-cache-control", Value: value} }

func old(value string) api.Field { return api.Field{Name: "cache-control", Value: value} }

// others have names that choose nothing, but values that would.
func others() []api.Field {
	var l []api.Field
	for _, name := range []string{"", "x", "pragma", "Cache-Control", "CDN-Cache-Control", "Cdn-Cache-Control", "cdn-cache-contro", "cdn-cache-controls", "cdn-cache_control", "cdn_cache_control", " cdn-cache-control", "cache-contro", "cache-controls", "cache-control ", "surrogate-control", "x-cdn-cache-control", "expires", "last-modified", "set-cookie", "vary", "age", "date"} {
		l = append(l, api.Field{Name: name, Value: "max-age=99, no-cache, max-stale"})
	}
	return l
}

// The constants.

func TestTheConstants(t *testing.T) {
	if modern.Nowhere != 0 || modern.Old != 1 || modern.Targeted != 2 {
		t.Error(modern.Nowhere, modern.Old, modern.Targeted)
	}
}

// P11.2: fields without either name, and with one of them.

func TestFieldsWithoutEitherName(t *testing.T) {
	checkChoose(t, none(), 0)
	checkChoose(t, none(), 0, []api.Field{}...)
	checkChoose(t, none(), 0, others()...)
	for _, other := range others() {
		checkChoose(t, none(), 0, other)
		checkChoose(t, none(), 0, other, other)
	}
}

func TestFieldsWithTheOldNameAlone(t *testing.T) {
	age := func(n int) legacy.Rules { return none(to("max-age", n)) }
	checkChoose(t, age(5), 1, old("max-age=5"))
	checkChoose(t, age(5), 1, append(others(), old("max-age=5"))...)
	checkChoose(t, age(5), 1, append([]api.Field{old("max-age=5")}, others()...)...)
	// It is where the rules stand even if it sets none.
	checkChoose(t, none(), 1, old(""))
	checkChoose(t, none(), 1, old("x"))
	checkChoose(t, none(), 1, old("x y"))
	checkChoose(t, none(), 1, old("max-age="))
	checkChoose(t, none(), 1, old(""), old(""))
	// It is parsed as directives are, not as a dictionary.
	checkChoose(t, age(5), 1, old(`Max-Age="5", max-age=6,`))
	checkChoose(t, age(0), 1, old("max-age"))
	checkChoose(t, age(0), 1, old("max-age=-1"))
	checkChoose(t, none(set("no-store")), 1, old("no-store=0"))
	checkChoose(t, none(set("no-store"), set("private")), 1, old("NO-STORE, private=\"a, b\""))
	checkChoose(t, none(to("max-stale", api.Top)), 1, old("max-stale"))
	// The first of more than one counts.
	checkChoose(t, none(to("max-age", 5), set("public")), 1, old("max-age=5"), old("max-age=60, public"))
}

func TestFieldsWithTheTargetedNameAlone(t *testing.T) {
	checkChoose(t, none(to("max-age", 7)), 2, cdn("max-age=7"))
	checkChoose(t, none(to("max-age", 7)), 2, append(others(), cdn("max-age=7"))...)
	checkChoose(t, none(to("max-age", 7)), 2, append([]api.Field{cdn("max-age=7")}, others()...)...)
	checkChoose(t, none(), 2, cdn("x"))
	checkChoose(t, none(), 2, cdn("max-age"))
	checkChoose(t, none(), 2, cdn("no-store=?0"))
	checkChoose(t, none(), 2, cdn(`max-age="7"`))
	checkChoose(t, none(set("no-store"), to("max-stale", api.Top)), 2, cdn("no-store, max-stale"))
	// Without any rules that are effective, they stand nowhere.
	for _, value := range []string{"", " ", "\t", "max-age=", "Max-Age=7", "max-age=7,", "max-age = 7", "NO-STORE", "no-store;", "5"} {
		checkChoose(t, none(), 0, cdn(value))
		checkChoose(t, none(), 0, append(others(), cdn(value))...)
	}
}

// P11.2: fields with more than one of the targeted name.

func TestTargetedValuesAreJoined(t *testing.T) {
	checkChoose(t, none(to("max-age", 7), set("public")), 2, cdn("max-age=7"), cdn("public"))
	checkChoose(t, none(to("max-age", 9)), 2, cdn("max-age=7"), cdn("max-age=9"))
	checkChoose(t, none(), 2, cdn("max-age=7"), cdn("max-age"))
	checkChoose(t, none(set("public"), set("private")), 2, cdn("public"), old("no-store"), cdn("x"), old(""), cdn("private"))
	// A String may go on in the next.
	checkChoose(t, none(set("public")), 2, cdn(`x="a`), cdn(`no-store", public`))
	checkChoose(t, none(to("max-age", 7)), 2, cdn(`max-age=7;x="`), cdn(`max-age=8`), cdn(`"`))
	// An inner list may not, and neither may a number.
	checkChoose(t, none(), 0, cdn("x=(a"), cdn("b)"))
	checkChoose(t, none(), 0, cdn("max-age="), cdn("7"))
	checkChoose(t, none(), 0, cdn("max-age=7;"), cdn("a"))
	// One that is not right, or empty, makes all of them not effective.
	for _, wrong := range []string{"", " ", "a=", "5", "X", "max-age=7;", ","} {
		checkChoose(t, none(), 0, cdn("max-age=7"), cdn(wrong))
		checkChoose(t, none(), 0, cdn(wrong), cdn("max-age=7"))
		checkChoose(t, none(), 0, cdn("max-age=7"), cdn(wrong), cdn("max-age=7"))
		checkChoose(t, none(to("max-age", 5)), 1, cdn("max-age=7"), old("max-age=5"), cdn(wrong))
		checkChoose(t, none(to("max-age", 5)), 1, old("max-age=5"), cdn(wrong), cdn("max-age=7"))
	}
}

// P11.2: fields with both names.

func TestFieldsWithBothNames(t *testing.T) {
	checkBoth := func(want legacy.Rules, place int, targeted, other string) {
		t.Helper()
		checkChoose(t, want, place, cdn(targeted), old(other))
		checkChoose(t, want, place, old(other), cdn(targeted))
		checkChoose(t, want, place, slices.Concat(others(), []api.Field{cdn(targeted)}, others(), []api.Field{old(other)}, others())...)
		checkChoose(t, want, place, slices.Concat(others(), []api.Field{old(other)}, others(), []api.Field{cdn(targeted)}, others())...)
	}
	for _, other := range []string{"max-age=5", "max-age=5, no-store", "no-store", "private, must-revalidate, s-maxage=1", "", "x y", "max-stale"} {
		// One that is effective has all rules, those that it does not set too.
		checkBoth(none(to("max-age", 7)), 2, "max-age=7", other)
		checkBoth(none(), 2, "x", other)
		checkBoth(none(), 2, "no-store=?0", other)
		checkBoth(none(), 2, "max-age=x", other)
		checkBoth(none(set("no-store")), 2, "no-store", other)
	}
	for _, targeted := range []string{"", " ", "\t", "max-age=", "Max-Age=7", "max-age=7;", "max-age=7,", "max-age = 7", "NO-STORE", "=", "7", "\xff"} {
		// One that is not has none.
		checkBoth(none(to("max-age", 5)), 1, targeted, "max-age=5")
		checkBoth(none(to("max-age", 5), set("no-store")), 1, targeted, "MAX-AGE=5, no-store=0")
		checkBoth(none(), 1, targeted, "")
		checkBoth(none(), 1, targeted, "x y")
	}
}

// P11.2, by the words.

// pieces are fields of which some together are effective, and some not.
func pieces() []api.Field {
	return []api.Field{
		cdn("max-age=7"), cdn("no-store, max-age=?1"), cdn("max-stale"), cdn(`x="`), cdn(`", public`), cdn(""), cdn("Max-Age=8"),
		old("max-age=5"), old("No-Store"), old(`x="`), old(`", public`), old(""), {Name: "pragma", Value: "no-cache"},
	}
}

func TestAllShortListsOfFields(t *testing.T) {
	places := [3]int{}
	eachList(pieces(), 4, func(l []api.Field) {
		want, place := chooseByWords(l)
		checkChoose(t, want, place, l...)
		places[place]++
	})
	if slices.Min(places[:]) < 1000 {
		t.Error("too few of one kind:", places)
	}
}

// P11.3: the theorem.

func TestNoOtherFieldChangesWhatIsEffective(t *testing.T) {
	rest := append(others(), old("max-age=5"), old("no-store"), old(""), old(`x="`))
	for _, targeted := range [][]api.Field{{cdn("max-age=7")}, {cdn("x")}, {cdn("no-store"), cdn("max-stale")}, {cdn(`x="`), cdn(`", public`)}, {cdn("max-age=7"), cdn("max-age=8"), cdn("max-age=(9)")}} {
		want, place := modern.Choose(targeted)
		if place != modern.Targeted {
			t.Errorf("Choose(%s): %d", brief(targeted), place)
		}
		for i := range len(targeted) + 1 {
			checkChoose(t, want, place, slices.Insert(slices.Clone(targeted), i, rest...)...)
			for _, one := range rest {
				checkChoose(t, want, place, slices.Insert(slices.Clone(targeted), i, one)...)
				checkChoose(t, want, place, slices.Insert(slices.Clone(targeted), i, one, rest[0], one)...)
			}
		}
	}
}

func TestWhatIsNotEffectiveHasNoEffect(t *testing.T) {
	for _, wrong := range []string{"", "  ", "max-age=", "max-age=7,", "No-Store", "max-age=7;", "7", "no-store public"} {
		for _, l := range [][]api.Field{nil, others(), {old("max-age=5")}, {old("")}, {old("no-store"), old("max-age=5")}, append(others(), old("private"))} {
			want, place := modern.Choose(l)
			for i := range len(l) + 1 {
				checkChoose(t, want, place, slices.Insert(slices.Clone(l), i, cdn(wrong))...)
				checkChoose(t, want, place, append(slices.Insert(slices.Clone(l), i, cdn(wrong)), cdn("max-age=7"))...)
				checkChoose(t, want, place, append([]api.Field{cdn("max-age=7")}, slices.Insert(slices.Clone(l), i, cdn(wrong))...)...)
			}
		}
	}
}

func TestTheTheoremForAllShortListsOfFields(t *testing.T) {
	isTargeted := func(f api.Field) bool { return f.Name == "cdn-cache-control" }
	eachList(pieces(), 4, func(l []api.Field) {
		r, place := modern.Choose(l)
		if place == modern.Targeted {
			checkChoose(t, r, place, slices.DeleteFunc(slices.Clone(l), func(f api.Field) bool { return !isTargeted(f) })...)
		} else {
			checkChoose(t, r, place, slices.DeleteFunc(slices.Clone(l), isTargeted)...)
			checkChoose(t, r, place, head.Without(l, "cdn-cache-control", "pragma")...)
		}
	})
}

// P0: many fields, and long ones.

func TestManyFields(t *testing.T) {
	const many = 100000
	l := slices.Repeat([]api.Field{cdn("max-age=6"), old("max-age=5"), cdn("x=(a b);c")}, many)
	checkChoose(t, none(to("max-age", 7)), 2, append(l, cdn("max-age=7"))...)
	checkChoose(t, none(to("max-age", 5)), 1, append(l, cdn(""))...)
	checkChoose(t, none(to("max-age", 5)), 1, cdn(strings.Repeat("max-age=6,", many)), old("max-age=5"))
}

// R3: what is given stays as it is.

func TestArgumentsStay(t *testing.T) {
	l := append(pieces(), others()...)
	same := slices.Clone(l)
	modern.Choose(l)
	modern.Choose(l[2:3])
	if !slices.Equal(l, same) {
		t.Error("Choose changed its fields:", l)
	}
}

// R4 and R5: the same call answers the same again, beside calls from other goroutines too.

func TestCallsAtTheSameTime(t *testing.T) {
	l := slices.Repeat([]api.Field{cdn(`x="a, b", max-age=60, no-store=?0`), old("max-age=5"), cdn("max-stale, no-store")}, 20)
	want := none(to("max-age", 60), to("max-stale", api.Top), set("no-store"))
	var group sync.WaitGroup
	for range 8 {
		group.Go(func() {
			for range 200 {
				checkChoose(t, want, 2, l...)
				checkParse(t, "max-stale, no-store, max-age=60", want)
				checkNotEffective(t, "max-stale, no-store, max-age=")
			}
		})
	}
	group.Wait()
}
