package head_test

import (
	"fmt"
	"slices"
	"strconv"
	"strings"
	"sync"
	"testing"

	"scullery/api"
	"scullery/head"
)

const (
	tokenBytes = "abcdefghijklmnopqrstuvwxyz0123456789!#$%&'*+-.^_`|~"
	many       = 100000
)

func field(name, value string) api.Field { return api.Field{Name: name, Value: value} }

// fields returns the fields of names and values by turns.
func fields(texts ...string) []api.Field {
	var l []api.Field
	for i := 0; i < len(texts); i += 2 {
		l = append(l, field(texts[i], texts[i+1]))
	}
	return l
}

// numbered returns that many fields, each of another name.
func numbered(count int) []api.Field {
	var l []api.Field
	for i := range count {
		l = append(l, field("n"+strconv.Itoa(i), strconv.Itoa(i)))
	}
	return l
}

// brief returns x for a message, cut off where it is long.
func brief(x any) string {
	s := fmt.Sprintf("%q", x)
	return fmt.Sprintf("%.300s", s)
}

// textOf is the text of fields by the words of the document.
func textOf(l []api.Field) string {
	s := ""
	for _, f := range l {
		s += f.Name + ": " + f.Value + "\r\n"
	}
	return s + "\r\n"
}

func checkRight(t *testing.T, l []api.Field) {
	t.Helper()
	if !head.Right(l) {
		t.Errorf("not Right: %d fields, %s", len(l), brief(l))
	}
	if s, e := head.Print(l); s != textOf(l) || e != api.OK {
		t.Errorf("Print(%s) = %s, %d", brief(l), brief(s), e)
	}
}

func checkWrong(t *testing.T, l []api.Field) {
	t.Helper()
	if head.Right(l) {
		t.Errorf("Right: %d fields, %s", len(l), brief(l))
	}
	if s, e := head.Print(l); s != "" || e != api.ErrForm {
		t.Errorf("Print(%s) = %s, %d; not ErrForm", brief(l), brief(s), e)
	}
}

// P6.1: fields that are valid, and their text.

func TestPrint(t *testing.T) {
	for want, l := range map[string][]api.Field{
		"\r\n":                                  nil,
		"host: a.b\r\n\r\n":                     fields("host", "a.b"),
		"empty: \r\n\r\n":                       fields("empty", ""),
		"vary: a\r\nhost: b\r\nvary: c\r\n\r\n": fields("vary", "a", "host", "b", "vary", "c"),
		"a: b: c\r\n\r\n":                       fields("a", "b: c"),
		"1: :\r\n\r\n":                          fields("1", ":"),
		tokenBytes + ": a \t b\r\n\r\n":         fields(tokenBytes, "a \t b"),
		"a: Caf\u00e9 \x80\xff~!\r\n\r\n":       fields("a", "Caf\u00e9 \x80\xff~!"),
		"a: 1\r\na: 1\r\n\r\n":                  fields("a", "1", "a", "1"),
	} {
		if s, e := head.Print(l); s != want || e != api.OK {
			t.Errorf("Print(%q) = %q, %d; not %q", l, s, e, want)
		}
		checkRight(t, l)
	}
	checkRight(t, []api.Field{})
}

func TestNamesThatMayNotBe(t *testing.T) {
	for _, name := range []string{
		"", " ", "\t", "Host", "hosT", "HOST", "hOst", "A", "Z", "x-Y", "a b", " a", "a ", "\ta", "a\t", "a:", ":", ":a", "a:b",
		"a,b", "a;b", "a=b", "a/b", "a@b", `"a"`, `a\`, "(a)", "[a]", "{a}", "<a>", "a?",
		"a\r", "a\n", "a\r\n", "\r\n", "a\x00", "\x00", "a\x7f", "a\x80", "\xff", "caf\u00e9", "\u00c9", "\u017f", "\u212a",
	} {
		checkWrong(t, fields(name, "b"))
		checkWrong(t, fields(name, ""))
		checkWrong(t, fields("a", "b", name, "c"))
		checkWrong(t, fields(name, "c", "a", "b"))
	}
}

func TestValuesThatMayNotBe(t *testing.T) {
	for _, value := range []string{
		" ", "\t", " b", "b ", "\tb", "b\t", " b ", "\t \t", "b\t ", " \tb",
		"\r", "\n", "\r\n", "b\r", "b\n", "b\r\n", "\rb", "\nb", "b\r\nc", "b\r\n c", "b\nc: d", "b\x00", "\x00", "b\x01c", "\x1f", "\x7f", "b\x7fc", "\x80\x7f", "\u00a0 ",
	} {
		checkWrong(t, fields("a", value))
		checkWrong(t, fields("a", "b", "c", value))
		checkWrong(t, fields("c", value, "a", "b"))
	}
}

func TestNamesAndValuesOfEachPair(t *testing.T) {
	right := 0
	for _, s := range pairs() {
		if s != "" && strings.Trim(s, tokenBytes) == "" {
			checkRight(t, fields(s, ""))
			right++
		} else {
			checkWrong(t, fields(s, ""))
		}
		if l := fields("a", s); valueForm.MatchString(s) {
			checkRight(t, l)
		} else {
			checkWrong(t, l)
		}
	}
	if n := len(tokenBytes); n != 36+15 || right != n+n*n {
		t.Error("not the names that may be:", right)
	}
}

func TestNumbersOfFields(t *testing.T) {
	for count := range 200 {
		for _, l := range [][]api.Field{numbered(count), slices.Repeat(fields("a", "b"), count)} {
			if count <= 64 {
				checkRight(t, l)
			} else {
				checkWrong(t, l)
			}
		}
	}
	for _, count := range []int{256, 320, 1 << 16, 1<<16 + 1, many} {
		checkWrong(t, slices.Repeat(fields("a", "b"), count))
	}
	// One that is wrong, wherever it stands.
	for _, count := range []int{1, 2, 63, 64} {
		for i := range count {
			l := numbered(count)
			l[i].Name = "N"
			checkWrong(t, l)
			l = numbered(count)
			l[i].Value = " "
			checkWrong(t, l)
			l = numbered(count)
			l[i].Value = strings.Repeat("b", 2000-len(l[i].Name))
			checkWrong(t, l)
		}
	}
}

func TestLengthsOfFields(t *testing.T) {
	for _, name := range []int{1, 2, 3, 10, 999, 1000, 1500, 1990, 1996, 1997, 1998} {
		for both := max(name, 1900); both <= 2100; both++ {
			l := fields(strings.Repeat("a", name), strings.Repeat("b", both-name))
			around := slices.Concat(fields("c", "d"), l, l)
			if both <= 1998 {
				checkRight(t, l)
				checkRight(t, around)
			} else {
				checkWrong(t, l)
				checkWrong(t, around)
			}
		}
	}
	for _, length := range []int{1999, 2000, 2001, 2002, 4000, 1 << 16, 1<<16 + 5, many} {
		checkWrong(t, fields(strings.Repeat("a", length), ""))
		checkWrong(t, fields("a", strings.Repeat("b", length)))
		checkWrong(t, fields(strings.Repeat("a", length), strings.Repeat("b", length)))
	}
	// Counted in bytes, not in characters.
	checkRight(t, fields("a", strings.Repeat("\u00e9", 998)+"b"))
	checkWrong(t, fields("a", strings.Repeat("\u00e9", 999)))
	// Each by itself, and not all together.
	checkRight(t, slices.Repeat(fields("a", strings.Repeat("b", 1997)), 64))
}

// P6.3: the values of a name.

// valuesOf is All by the words of the document.
func valuesOf(l []api.Field, name string) []string {
	var values []string
	for i := range l {
		if strings.Compare(l[i].Name, name) == 0 {
			values = append(values, l[i].Value)
		}
	}
	return values
}

func checkValues(t *testing.T, l []api.Field, name string, want ...string) {
	t.Helper()
	if values := head.All(l, name); !slices.Equal(values, want) {
		t.Errorf("All(%s, %s) = %s; not %s", brief(l), brief(name), brief(values), brief(want))
	}
	joined, found := "", len(want) > 0
	for i, value := range want {
		if i > 0 {
			joined += ", "
		}
		joined += value
	}
	if value, is := head.Get(l, name); value != joined || is != found {
		t.Errorf("Get(%s, %s) = %s, %v; not %s, %v", brief(l), brief(name), brief(value), is, brief(joined), found)
	}
}

func TestAllAndGet(t *testing.T) {
	l := fields("vary", "a", "host", "b", "vary", "c, d", "empty", "", "Vary", "e", "x", "", "vary", "a", "x", "f", "x", "")
	checkValues(t, l, "vary", "a", "c, d", "a")
	checkValues(t, l, "host", "b")
	checkValues(t, l, "empty", "")
	checkValues(t, l, "Vary", "e")
	checkValues(t, l, "x", "", "f", "")
	for _, name := range []string{"", "VARY", "varY", "var", "vary ", " vary", "vary:", "ary", "Host", "hosts", "hos", "a", "b", "vary\x00", "v\u00e4ry"} {
		checkValues(t, l, name)
	}
	checkValues(t, nil, "vary")
	checkValues(t, nil, "")
	checkValues(t, []api.Field{}, "vary")
	checkValues(t, fields("", "a", "b", "c", "", "d"), "", "a", "d")
	checkValues(t, fields("a", "", "a", ""), "a", "", "")
	checkValues(t, fields("a", ",", "a", " "), "a", ",", " ")
	// Fields that aren't valid are looked up all the same.
	checkValues(t, fields("A b", "\r\n", "A b", "\x00"), "A b", "\r\n", "\x00")
	checkValues(t, slices.Repeat(fields("a", "b", "c", "d"), 100), "a", slices.Repeat([]string{"b"}, 100)...)
	if value, is := head.Get(fields("vary", "a", "vary", "b", "vary", "c"), "vary"); value != "a, b, c" || !is {
		t.Error(value, is)
	}
}

// lists calls f with all lists of at most that many fields of those names, each with another value.
func lists(names []string, most int, f func(l []api.Field)) {
	var grow func(l []api.Field)
	grow = func(l []api.Field) {
		f(slices.Clone(l))
		if len(l) == most {
			return
		}
		for _, name := range names {
			grow(append(slices.Clone(l), field(name, strconv.Itoa(len(l)))))
		}
	}
	grow(nil)
}

func TestNamesOfAllShortLists(t *testing.T) {
	names := []string{"a", "b", "A", ""}
	lists(names, 5, func(l []api.Field) {
		for _, name := range append(names, "B", "ab") {
			checkValues(t, l, name, valuesOf(l, name)...)
			checkWithout(t, l, name)
			checkWithout(t, l, name, "a")
			checkWith(t, l, name, "x")
		}
		checkWithout(t, l)
		checkWithout(t, l, names...)
		checkWithout(t, l, "", "b", "c")
	})
}

// P6.3: fields that have none of some names.

// restOf is Without by the words of the document.
func restOf(l []api.Field, names []string) []api.Field {
	return slices.DeleteFunc(slices.Clone(l), func(f api.Field) bool { return slices.Index(names, f.Name) >= 0 })
}

func checkWithout(t *testing.T, l []api.Field, names ...string) {
	t.Helper()
	want := restOf(l, names)
	before, namesBefore := slices.Clone(l), slices.Clone(names)
	rest := head.Without(l, names...)
	if !slices.Equal(rest, want) {
		t.Errorf("Without(%s, %s) = %s; not %s", brief(l), brief(names), brief(rest), brief(want))
	}
	// P6.4: what is left out isn't found any more, and all else is.
	for _, name := range names {
		if value, is := head.Get(rest, name); value != "" || is {
			t.Errorf("Get(%s, %s) = %s, %v behind Without", brief(rest), brief(name), brief(value), is)
		}
	}
	for i := range rest {
		rest[i] = field("changed", "changed")
	}
	_ = append(rest, field("more", "more"))
	if !slices.Equal(l, before) || !slices.Equal(names, namesBefore) {
		t.Errorf("Without changed its arguments: %s, %s", brief(before), brief(namesBefore))
	}
}

func TestWithout(t *testing.T) {
	l := fields("a", "1", "b", "2", "A", "3", "a", "4", "c", "", "b", "5")
	for _, c := range []struct {
		names []string
		want  []api.Field
	}{
		{nil, l},
		{[]string{}, l},
		{[]string{"a"}, fields("b", "2", "A", "3", "c", "", "b", "5")},
		{[]string{"A"}, fields("a", "1", "b", "2", "a", "4", "c", "", "b", "5")},
		{[]string{"b", "a"}, fields("A", "3", "c", "")},
		{[]string{"a", "a"}, fields("b", "2", "A", "3", "c", "", "b", "5")},
		{[]string{"c", "d", "b"}, fields("a", "1", "A", "3", "a", "4")},
		{[]string{"a", "b", "c"}, fields("A", "3")},
		{[]string{"a", "b", "c", "A"}, nil},
		{[]string{"", "d", "B", "C", "ab", "a ", "a:"}, l},
	} {
		if rest := head.Without(l, c.names...); !slices.Equal(rest, c.want) {
			t.Errorf("Without(%q) = %q; not %q", c.names, rest, c.want)
		}
		checkWithout(t, l, c.names...)
	}
	checkWithout(t, nil)
	checkWithout(t, nil, "a")
	checkWithout(t, []api.Field{}, "a", "b")
	checkWithout(t, fields("", "a", "b", "c"), "")
	checkWithout(t, numbered(many), "n0", "n"+strconv.Itoa(many-1))
}

// TestManyNames takes minutes where each field is held against each name.
func TestManyNames(t *testing.T) {
	l := append(numbered(many), field("last", "x"))
	var names []string
	for i := range 5 * many {
		names = append(names, "n"+strconv.Itoa(5*many-1-i))
	}
	if rest := head.Without(l, names...); !slices.Equal(rest, fields("last", "x")) {
		t.Error(len(rest))
	}
	same := slices.Repeat(fields("a", "b"), many)
	if rest := head.Without(same, names...); len(rest) != many {
		t.Error(len(rest))
	}
	checkValues(t, append(same, l...), "last", "x")
	if value, is := head.Get(same, "a"); value != strings.Repeat("b, ", many-1)+"b" || !is {
		t.Error(len(value), is)
	}
}

// P6.3: one more field.

func checkWith(t *testing.T, l []api.Field, name, value string) {
	t.Helper()
	before := slices.Clone(l)
	more := head.With(l, name, value)
	if len(more) != len(l)+1 || !slices.Equal(more[:len(l)], l) || more[len(l)] != field(name, value) {
		t.Errorf("With(%s, %s, %s) = %s", brief(l), brief(name), brief(value), brief(more))
	}
	for i := range more {
		more[i] = field("changed", "changed")
	}
	if !slices.Equal(l, before) {
		t.Errorf("With changed its fields: %s", brief(before))
	}
}

func TestWith(t *testing.T) {
	for _, l := range [][]api.Field{nil, {}, fields("a", "b"), fields("a", "b", "c", "d"), numbered(64), numbered(65), numbered(1000)} {
		checkWith(t, l, "a", "b")
		checkWith(t, l, "a", "")
		// What isn't valid is put there all the same.
		checkWith(t, l, "", "")
		checkWith(t, l, "A b", " \r\n")
		checkWith(t, l, strings.Repeat("a", 2000), strings.Repeat("b", 2000))
	}
	if l := head.With(fields("a", "b", "c", "d"), "a", "e"); !slices.Equal(l, fields("a", "b", "c", "d", "a", "e")) {
		t.Errorf("%q", l)
	}
}

func TestWithLeavesTheMemoryBehindItsFields(t *testing.T) {
	for count := range 20 {
		whole := numbered(20)
		l := whole[:count]
		_ = head.With(l, "a", "b")
		_ = head.Without(l, "n0")
		_ = head.Without(l)
		if !slices.Equal(whole, numbered(20)) {
			t.Errorf("behind %d fields: %q", count, whole)
		}
	}
}

func TestWithOfOneListTwice(t *testing.T) {
	l := fields()
	for range 100 {
		first := head.With(l, "a", "1")
		second := head.With(l, "b", "2")
		third := head.With(second, "c", "3")
		if first[len(l)] != field("a", "1") || second[len(l)] != field("b", "2") || third[len(l)] != field("b", "2") {
			t.Fatalf("with memory in common behind %d fields", len(l))
		}
		l = first
	}
}

// R3: an answer belongs to its caller.

func TestAnswersAreTheCallers(t *testing.T) {
	l := fields("a", "1", "b", "2", "a", "3")
	values := head.All(l, "a")
	values[0], values[1] = "changed", "changed"
	_ = append(values, "more")
	checkValues(t, l, "a", "1", "3")
	first, second := head.Without(l), head.Without(l)
	first[0] = field("c", "d")
	if !slices.Equal(second, l) || l[0] != field("a", "1") {
		t.Errorf("with memory in common: %q, %q", second, l)
	}
	const s = "a: 1\r\nb: 2\r\n\r\n"
	parsed, _, _ := head.Parse(s)
	parsed[0] = field("c", "d")
	checkParse(t, s, fields("a", "1", "b", "2"), len(s))
}

// R5: calls from several goroutines.

func TestCallsAtTheSameTime(t *testing.T) {
	shared := fields("vary", "a", "host", "b", "vary", "c")
	var group sync.WaitGroup
	for range 8 {
		group.Go(func() {
			for range 200 {
				s, e := head.Print(shared)
				l, n, parseError := head.Parse(s + "body")
				value, is := head.Get(l, "vary")
				if e != api.OK || parseError != api.OK || n != len(s) || value != "a, c" || !is || len(head.Without(shared, "vary")) != 1 || len(head.With(shared, "x", "")) != 4 {
					t.Error("another answer beside other calls")
				}
			}
		})
	}
	group.Wait()
}
