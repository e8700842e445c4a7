package vary_test

import (
	"fmt"
	"slices"
	"strings"
	"sync"
	"testing"

	"scullery/api"
	"scullery/vary"
)

// P15.4: the theorem.

// valuesOf returns, as one text, what a request tells as each of the names.
func valuesOf(names []string, request []api.Field) string {
	var values []told
	for _, name := range names {
		values = append(values, toldByWords(request, name))
	}
	return fmt.Sprintf("%#v", values)
}

// checkAlike holds against each other which requests have the same values, and which have the same Variant; it returns how many differ.
func checkAlike(t *testing.T, names []string, each func(f func(request []api.Field))) int {
	t.Helper()
	variantOf, firstOf := map[string]string{}, map[string][]api.Field{}
	each(func(request []api.Field) {
		values, variant := valuesOf(names, request), vary.Variant(names, request)
		first, known := variantOf[values]
		if known && variant != first {
			t.Errorf("names %q: the same values, but not the same variant: %s", names, brief(request))
		}
		if other, known := firstOf[variant]; known && valuesOf(names, other) != values {
			t.Errorf("names %q: the same variant, but not the same values: %s, %s", names, brief(request), brief(other))
		}
		variantOf[values], firstOf[variant] = variant, slices.Clone(request)
	})
	return len(variantOf)
}

func TestVariantsAreEqualIfTheValuesAre(t *testing.T) {
	pool := append(lines("a", "", "-", "x", "x ,", "-;b:-", "1:x;b:1:x"), fields("b", "", "b", "x", "b", "-;", "c", "x")...)
	each := func(f func([]api.Field)) { eachList(pool, 4, f) }
	for _, names := range [][]string{nil, {"a"}, {"b"}, {"a", "b"}, {"b", "a"}, {"a", "a", "b"}, {"a", "b", "c"}, {"a", "-", "b"}} {
		if count := checkAlike(t, names, each); len(names) > 1 && count < 500 || len(names) == 0 && count != 1 {
			t.Errorf("names %q: %d", names, count)
		}
	}
	texts := func(pieces ...string) func(f func([]api.Field)) {
		return func(f func([]api.Field)) {
			f(nil)
			eachText(pieces, 3, func(a string) {
				f(lines("a", a))
				f(lines("b", a))
				eachText(pieces, 3, func(b string) { f(fields("a", a, "b", b)) })
			})
		}
	}
	for _, names := range [][]string{{"a", "b"}, {"b", "a", "b"}} {
		checkAlike(t, names, texts("-", ";", ":", "0", "b"))
		checkAlike(t, names, texts(";b:", "0:", "1:", "-", "a:"))
		checkAlike(t, names, texts("x", ",", " ", `"`, `\`))
	}
	// Names that are as what stands between.
	checkAlike(t, []string{"-", "0", "1"}, func(f func([]api.Field)) {
		eachList(fields("-", "", "-", ";0:-", "0", "-;1:-", "0", "1", "1", "", "1", "0:;"), 5, f)
	})
}

// requests have values for a, b and c, of which none has an open quote.
func requests() [][]api.Field {
	return [][]api.Field{
		nil, lines("a", ""), lines("a", "x"), lines("a", "x, y", "z"), fields("a", "x", "b", "y"), fields("b", `"p, q",r`, "a", "", "c", "-", "b", "s;t:1"),
		fields("c", "x", "b", "x", "a", "x"), fields("a", ",", "a", "x,,y", "b", ""), lines("c", `";, \" ,-",0:`),
	}
}

func TestOneDifferentValueMakesAnotherVariant(t *testing.T) {
	names := []string{"a", "b", "c"}
	for _, request := range requests() {
		variant := vary.Variant(names, request)
		for _, name := range names {
			for _, value := range []string{"w", "-", ":", ";", "0", `"w, w"`} {
				// With one part more, and with this one instead of what there is.
				more := append(slices.Clone(request), field(name, value))
				without := slices.DeleteFunc(slices.Clone(request), func(f api.Field) bool { return f.Name == name })
				for _, other := range [][]api.Field{more, append(slices.Clone(without), field(name, value))} {
					if same := valuesOf(names, other) == valuesOf(names, request); (vary.Variant(names, other) == variant) != same {
						t.Errorf("%s, %s: one variant, %t", brief(request), brief(other), !same)
					}
				}
				if vary.Variant(names, more) == variant {
					t.Errorf("%s: the same with one part more", brief(more))
				}
			}
		}
	}
}

func TestFieldsOfOtherNamesHaveNoEffect(t *testing.T) {
	names := []string{"a", "b", "c"}
	for _, request := range requests() {
		variant := vary.Variant(names, request)
		for _, value := range []string{"", "x", "a:-;", `"`, "*"} {
			rest := others(value)
			for i := range len(request) + 1 {
				checkVariant(t, variant, names, slices.Insert(slices.Clone(request), i, rest...))
				for _, other := range rest {
					checkVariant(t, variant, names, slices.Insert(slices.Clone(request), i, other))
				}
			}
			checkVariant(t, variant, names, slices.Concat(rest, request, rest))
			// Those of names that are not asked for are others too.
			checkVariant(t, vary.Variant(names[:2], request), names[:2], slices.Concat(lines("c", value), request, lines("c", value)))
			checkVariant(t, vary.Variant(names[1:], request), names[1:], slices.Concat(lines("a", value), request, lines("a", value)))
		}
	}
}

func TestTheOrderOfNamesInARequestHasNoEffect(t *testing.T) {
	names := []string{"a", "b", "c"}
	blocks := map[string][]api.Field{"a": lines("a", "x", "y"), "b": lines("b", ""), "c": lines("c", `"z`, `"`)}
	eachOrder(names, func(order []string) {
		checkVariant(t, `a:3:x,y;b:0:;c:5:"z, ";`, names, slices.Concat(blocks[order[0]], blocks[order[1]], blocks[order[2]]))
	})
}

func TestBlanksAroundCommasHaveNoEffect(t *testing.T) {
	names := []string{"a", "b"}
	for _, parts := range [][]string{{"x"}, {"x", "y"}, {"y", "x"}, {"x", `"p, q"`, "x"}, {`"\","`, `" "`, "-", "0:;"}, {"x y", "z\tw", "\xff"}} {
		plain := vary.Variant(names, lines("a", strings.Join(parts, ",")))
		checkVariant(t, "a:"+fmt.Sprint(len(strings.Join(parts, ",")))+":"+strings.Join(parts, ",")+";b:-;", names, lines("a", parts...))
		eachText([]string{" ", "\t", ","}, 4, func(blanks string) {
			checkVariant(t, plain, names, lines("a", strings.Join(parts, blanks+",")))
			checkVariant(t, plain, names, lines("a", strings.Join(parts, ","+blanks)))
			checkVariant(t, plain, names, lines("a", blanks+strings.Join(parts, ","+blanks)+blanks))
			checkVariant(t, plain, names, append(lines("a", blanks), lines("a", parts...)...))
			checkVariant(t, plain, names, append(lines("a", parts...), lines("a", blanks)...))
		})
	}
}

func TestBlanksElsewhereHaveAnEffect(t *testing.T) {
	for _, l := range [][2]string{{"x y", "xy"}, {"x y", "x  y"}, {"x y", "x\ty"}, {`"x,y"`, `"x, y"`}, {`"x"`, `" x"`}, {`" "`, `""`}, {"x, y", "x y"}, {`"x , y`, `"x, y`}} {
		a, b := vary.Variant([]string{"a"}, lines("a", l[0])), vary.Variant([]string{"a"}, lines("a", l[1]))
		if a == b {
			t.Errorf("%q, %q: %q", l[0], l[1], a)
		}
	}
}

// R3: arguments stay as they are.

func TestArgumentsStay(t *testing.T) {
	names := []string{"b", "a", "b", "C", "spare"}
	l := append(fields("vary", "B, a", "a", " x ,y", "vary", " b,", "b", "", "A", "x"), field("spare", "z"))
	sameNames, same := slices.Clone(names), slices.Clone(l)
	checkNames(t, l[:5], "a", "b")
	checkValue(t, of("x,y"), l[:5], "a")
	checkVariant(t, "b:0:;a:3:x,y;b:0:;C:-;", names[:4], l[:5])
	if !slices.Equal(names, sameNames) || !slices.Equal(l, same) {
		t.Error("an argument has changed:", names, l)
	}
}

// R4 and R5: a result depends on the arguments alone, also for several goroutines at the same time.

func TestSeveralGoroutines(t *testing.T) {
	l := fields("vary", "e, D,c", "a", "x ,y", "vary", "B,a", "b", "", "e", `"p, q"`)
	var group sync.WaitGroup
	for range 8 {
		group.Go(func() {
			for range 500 {
				checkNames(t, l, "a", "b", "c", "d", "e")
				checkAll(t, append(lines("vary", "*"), l...))
				checkValue(t, of("x,y"), l, "a")
				checkValue(t, absent, l, "c")
				checkVariant(t, `a:3:x,y;b:0:;c:-;e:6:"p, q";`, []string{"a", "b", "c", "e"}, l)
			}
		})
	}
	group.Wait()
}
