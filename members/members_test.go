package members_test

import (
	"fmt"
	"math"
	"slices"
	"strconv"
	"strings"
	"sync"
	"testing"

	"scullery/api"
	"scullery/bare"
	"scullery/item"
	"scullery/members"
)

const many = 100000

func integer(n int64) api.Bare { return api.Bare{Kind: api.Integer, N: n} }
func decimal(n int64) api.Bare { return api.Bare{Kind: api.Decimal, N: n} }
func quoted(s string) api.Bare { return api.Bare{Kind: api.String, S: s} }
func token(s string) api.Bare  { return api.Bare{Kind: api.Token, S: s} }
func binary(s string) api.Bare { return api.Bare{Kind: api.Bytes, S: s} }
func boolean(n int64) api.Bare { return api.Bare{Kind: api.Boolean, N: n} }

func param(key string, value api.Bare) item.Param { return item.Param{Key: key, Value: value} }
func list(l ...item.Param) []item.Param           { return l }
func with(value api.Bare, params ...item.Param) item.Item {
	return item.Item{Value: value, Params: params}
}

// single is a member that is an item.
func single(value api.Bare, params ...item.Param) members.Member {
	return members.Member{Item: with(value, params...)}
}

// inner is a member that is an inner list, with the parameters.
func inner(params []item.Param, items ...item.Item) members.Member {
	return members.Member{Inner: true, Items: items, Params: params}
}

func entry(key string, value members.Member) members.Entry {
	return members.Entry{Key: key, Value: value}
}

// brief returns x for a message, cut off where it is long.
func brief(x any) string {
	s := fmt.Sprintf("%+v", x)
	return fmt.Sprintf("%.300q", s)
}

// equal is Same by the words of the document, part for part.
func equal(a, b members.Member) bool {
	if a.Inner != b.Inner || len(a.Items) != len(b.Items) || !equalItems(a.Item, b.Item) {
		return false
	}
	for i := range a.Items {
		if !equalItems(a.Items[i], b.Items[i]) {
			return false
		}
	}
	return equalParams(a.Params, b.Params)
}

func equalItems(a, b item.Item) bool {
	return a.Value == b.Value && equalParams(a.Params, b.Params)
}

func equalParams(a, b []item.Param) bool {
	if len(a) != len(b) {
		return false
	}
	for i := range a {
		if a[i].Key != b[i].Key || a[i].Value != b[i].Value {
			return false
		}
	}
	return true
}

func equalEntries(a, b members.Entry) bool { return a.Key == b.Key && equal(a.Value, b.Value) }

// valid is what the document calls a valid member.
func valid(m members.Member) bool {
	if !m.Inner {
		return validItem(m.Item) && len(m.Items) == 0 && len(m.Params) == 0
	}
	for _, x := range m.Items {
		if !validItem(x) {
			return false
		}
	}
	return validParams(m.Params) && m.Item.Value == api.Bare{} && len(m.Item.Params) == 0
}

func validItem(x item.Item) bool { return bare.Right(x.Value) && validParams(x.Params) }

func validParams(l []item.Param) bool {
	for i, p := range l {
		if !item.Key(p.Key) || !bare.Right(p.Value) {
			return false
		}
		for _, before := range l[:i] {
			if before.Key == p.Key {
				return false
			}
		}
	}
	return true
}

// validDict is what the document calls a valid dictionary.
func validDict(l []members.Entry) bool {
	for i, e := range l {
		if !item.Key(e.Key) || !valid(e.Value) {
			return false
		}
		for _, before := range l[:i] {
			if before.Key == e.Key {
				return false
			}
		}
	}
	return true
}

func checkPrintList(t *testing.T, l []members.Member, want string) {
	t.Helper()
	if s, e := members.PrintList(l); s != want || e != api.OK {
		t.Errorf("PrintList(%s) = %s, %d; not %s", brief(l), brief(s), e, brief(want))
	}
}

func checkPrintDict(t *testing.T, l []members.Entry, want string) {
	t.Helper()
	if s, e := members.PrintDict(l); s != want || e != api.OK {
		t.Errorf("PrintDict(%s) = %s, %d; not %s", brief(l), brief(s), e, brief(want))
	}
}

func checkListNotPrinted(t *testing.T, l ...members.Member) {
	t.Helper()
	if s, e := members.PrintList(l); s != "" || e != api.ErrForm {
		t.Errorf("PrintList(%s) = %s, %d", brief(l), brief(s), e)
	}
}

func checkDictNotPrinted(t *testing.T, l ...members.Entry) {
	t.Helper()
	if s, e := members.PrintDict(l); s != "" || e != api.ErrForm {
		t.Errorf("PrintDict(%s) = %s, %d", brief(l), brief(s), e)
	}
}

// checkMemberNotPrinted holds a member that is not valid in lists and in dictionaries, alone and beside valid ones.
func checkMemberNotPrinted(t *testing.T, m members.Member) {
	t.Helper()
	good := single(integer(1))
	checkListNotPrinted(t, m)
	checkListNotPrinted(t, m, good)
	checkListNotPrinted(t, good, m)
	checkDictNotPrinted(t, entry("a", m))
	checkDictNotPrinted(t, entry("a", m), entry("b", good))
	checkDictNotPrinted(t, entry("b", good), entry("a", m))
}

// P4.2: the text of lists.

func TestPrintList(t *testing.T) {
	yes, one, two := boolean(1), integer(1), integer(2)
	a, b := param("a", yes), param("b", one)
	for _, c := range []struct {
		m    members.Member
		want string
	}{
		{single(integer(-7)), "-7"},
		{single(decimal(1500), b), "1.5;b=1"},
		{single(quoted(`a, "b`)), `"a, \"b"`},
		{single(token("text/html"), param("q", decimal(500)), a), "text/html;q=0.5;a"},
		{single(binary("hello")), ":aGVsbG8=:"},
		// The Boolean 1 is left out in dictionaries alone.
		{single(yes), "?1"},
		{single(yes, a, b), "?1;a;b=1"},
		{single(boolean(0), a), "?0;a"},
		{inner(nil), "()"},
		{inner(list(a)), "();a"},
		{inner(nil, with(one)), "(1)"},
		{inner(nil, with(one), with(two)), "(1 2)"},
		{inner(nil, with(yes), with(yes)), "(?1 ?1)"},
		{inner(nil, with(one), with(one), with(one)), "(1 1 1)"},
		{inner(nil, with(one, a), with(quoted(" )"), b, a)), `(1;a " )";b=1;a)`},
		{inner(list(b, a), with(token("x"))), "(x);b=1;a"},
		{inner(list(a), with(one, a), with(two, a)), "(1;a 2;a);a"},
	} {
		checkPrintList(t, []members.Member{c.m}, c.want)
		checkPrintList(t, []members.Member{c.m, c.m}, c.want+", "+c.want)
		checkPrintList(t, []members.Member{single(two), c.m, inner(nil)}, "2, "+c.want+", ()")
	}
	checkPrintList(t, nil, "")
	checkPrintList(t, []members.Member{}, "")
}

// P4.2: the text of dictionaries.

func TestPrintDict(t *testing.T) {
	yes, one := boolean(1), integer(1)
	x, y := param("x", yes), param("y", one)
	for _, c := range []struct {
		m    members.Member
		want string
	}{
		{single(one), "=1"},
		{single(one, x), "=1;x"},
		{single(quoted("a, b")), `="a, b"`},
		{single(quoted("?1"), y), `="?1";y=1`},
		{single(token("b"), x, y), "=b;x;y=1"},
		{single(binary("")), "=::"},
		{single(yes), ""},
		{single(yes, x), ";x"},
		{single(yes, y, x), ";y=1;x"},
		{single(boolean(0)), "=?0"},
		{single(boolean(0), x), "=?0;x"},
		{single(decimal(1000)), "=1.0"},
		{inner(nil), "=()"},
		{inner(list(x)), "=();x"},
		{inner(nil, with(yes)), "=(?1)"},
		{inner(list(y, x), with(yes, x), with(one)), "=(?1;x 1);y=1;x"},
	} {
		checkPrintDict(t, []members.Entry{entry("a", c.m)}, "a"+c.want)
		checkPrintDict(t, []members.Entry{entry("*_-.9z", c.m), entry("a", c.m)}, "*_-.9z"+c.want+", a"+c.want)
		checkPrintDict(t, []members.Entry{entry("b", single(yes)), entry("a", c.m), entry("c", inner(nil))}, "b, a"+c.want+", c=()")
	}
	checkPrintDict(t, nil, "")
	checkPrintDict(t, []members.Entry{}, "")
}

// P4.2: members that are not valid.

func TestPrintOfMembersWithWhatTheirKindDoesNotUse(t *testing.T) {
	yes, one := boolean(1), integer(1)
	a := param("a", yes)
	items := []item.Item{with(one)}
	for _, value := range []api.Bare{one, yes, boolean(0), quoted(""), token("a")} {
		x := with(value, a)
		for _, l := range [][]item.Item{items, {{}}, {x, x}} {
			checkMemberNotPrinted(t, members.Member{Item: x, Items: l})
			checkMemberNotPrinted(t, members.Member{Item: x, Items: l, Params: list(a)})
		}
		checkMemberNotPrinted(t, members.Member{Item: x, Params: list(a)})
		checkMemberNotPrinted(t, members.Member{Item: x, Params: make([]item.Param, 1)})
		checkMemberNotPrinted(t, members.Member{Inner: true, Item: x})
		checkMemberNotPrinted(t, members.Member{Inner: true, Item: with(value), Items: items})
		checkMemberNotPrinted(t, members.Member{Inner: true, Item: x, Items: items, Params: list(a)})
	}
	for _, x := range []item.Item{with(api.Bare{}, a), with(api.Bare{N: 1}), with(api.Bare{S: "a"}), with(api.Bare{Kind: 9}), with(api.Bare{}, item.Param{}), with(integer(0))} {
		checkMemberNotPrinted(t, members.Member{Inner: true, Item: x})
		checkMemberNotPrinted(t, members.Member{Inner: true, Item: x, Items: items})
	}
	checkMemberNotPrinted(t, members.Member{})
	checkMemberNotPrinted(t, members.Member{Items: items})
	checkMemberNotPrinted(t, members.Member{Params: list(a)})
	// R2: what is empty and what is nil are the same.
	checkPrintList(t, []members.Member{{Item: with(one), Items: []item.Item{}, Params: []item.Param{}}}, "1")
	checkPrintDict(t, []members.Entry{entry("a", members.Member{Item: with(yes), Items: []item.Item{}, Params: []item.Param{}})}, "a")
	checkPrintList(t, []members.Member{{Inner: true, Item: item.Item{Params: []item.Param{}}, Items: []item.Item{}}}, "()")
}

func TestPrintOfInvalidParts(t *testing.T) {
	one := integer(1)
	values := []api.Bare{{}, {Kind: 7}, {Kind: math.MinInt}, boolean(2), integer(math.MaxInt64), token(""), token("a b"), quoted("\n"), {Kind: api.Boolean, N: 1, S: "a"}, {Kind: api.Token, N: 1, S: "a"}}
	var wrong []item.Item
	for _, b := range values {
		wrong = append(wrong, with(b), with(b, param("a", one)), with(one, param("a", b)), with(boolean(1), param("a", b)))
	}
	for _, key := range []string{"", "A", "1", "-a", "a b", "a=", "\u00e9"} {
		wrong = append(wrong, with(one, param(key, one)), with(boolean(1), param(key, boolean(1))))
	}
	wrong = append(wrong, with(one, param("a", one), param("a", one)), with(one, param("a", one), param("b", one), param("a", boolean(1))))
	for _, x := range wrong {
		checkMemberNotPrinted(t, members.Member{Item: x})
		checkMemberNotPrinted(t, inner(nil, x))
		checkMemberNotPrinted(t, inner(nil, x, with(one)))
		checkMemberNotPrinted(t, inner(nil, with(one), x))
		checkMemberNotPrinted(t, inner(list(param("b", one)), with(one), x, with(one)))
		if !validParams(x.Params) {
			checkMemberNotPrinted(t, inner(x.Params))
			checkMemberNotPrinted(t, inner(x.Params, with(one)))
		}
	}
}

// P4.2: dictionaries that are not valid for their keys.

func TestPrintOfInvalidKeys(t *testing.T) {
	values := []members.Member{single(integer(1)), single(boolean(1)), single(boolean(1), param("x", integer(1))), inner(nil), inner(nil, with(integer(1)))}
	for _, key := range []string{"", "A", "1", "-a", "_", ".", "a b", "a=", "a;", "aB", " a", "a ", "a\t", "a\x00", "a\x80", "\u00e9", "a,b", "a/b", "a:b", "(a)", "a=1"} {
		for _, m := range values {
			checkDictNotPrinted(t, entry(key, m))
			checkDictNotPrinted(t, entry(key, m), entry("b", m))
			checkDictNotPrinted(t, entry("b", m), entry(key, m))
		}
	}
}

func TestPrintOfEqualKeys(t *testing.T) {
	one, two, yes := single(integer(1)), single(integer(2)), single(boolean(1))
	checkDictNotPrinted(t, entry("a", one), entry("a", one))
	checkDictNotPrinted(t, entry("a", one), entry("a", two))
	checkDictNotPrinted(t, entry("a", yes), entry("a", yes))
	checkDictNotPrinted(t, entry("a", inner(nil)), entry("a", one))
	checkDictNotPrinted(t, entry("a", one), entry("b", one), entry("a", two))
	checkDictNotPrinted(t, entry("a", one), entry("b", one), entry("c", yes), entry("b", yes))
	checkDictNotPrinted(t, entry("*", one), entry("a", one), entry("*", two))
	checkPrintDict(t, []members.Entry{entry("a", one), entry("aa", one), entry("a.", one)}, "a=1, aa=1, a.=1")
}

func TestPrintOfMany(t *testing.T) {
	var l []members.Member
	var d []members.Entry
	var items []item.Item
	var texts, keys []string
	for i := range many {
		text := strconv.Itoa(i)
		x := with(integer(int64(i)))
		l, d, items = append(l, members.Member{Item: x}), append(d, entry("k"+text, single(boolean(1)))), append(items, x)
		texts, keys = append(texts, text), append(keys, "k"+text)
	}
	checkPrintList(t, l, strings.Join(texts, ", "))
	checkPrintDict(t, d, strings.Join(keys, ", "))
	checkPrintList(t, []members.Member{inner(nil, items...)}, "("+strings.Join(texts, " ")+")")
	checkListNotPrinted(t, append(l, members.Member{})...)
	checkDictNotPrinted(t, append(d, d[0])...)
}

// P4.2: Get.

func TestGet(t *testing.T) {
	one, two := single(integer(1), param("x", boolean(1))), inner(list(param("y", integer(3))), with(integer(2), param("z", token("t"))), with(token("b")))
	d := []members.Entry{entry("a", one), entry("b", two), entry("c", single(boolean(1))), entry("", one), entry("a", two), entry("B", one), entry("e", members.Member{})}
	for key, want := range map[string]members.Member{"a": one, "b": two, "c": single(boolean(1)), "": one, "B": one, "e": {}} {
		if m, is := members.Get(d, key); !is || !equal(m, want) {
			t.Errorf("Get(%q) = %+v, %v", key, m, is)
		}
	}
	if m, is := members.Get(d[1:], "a"); !is || !equal(m, two) {
		t.Error("the later entry:", m, is)
	}
	for _, key := range []string{"d", "A", "C", "aa", " a", "a ", "*", "\x00"} {
		if m, is := members.Get(d, key); is || !equal(m, members.Member{}) {
			t.Errorf("Get(%q) = %+v, %v", key, m, is)
		}
	}
	for _, none := range [][]members.Entry{nil, {}, d[:0]} {
		if m, is := members.Get(none, ""); is || !equal(m, members.Member{}) {
			t.Error("Get of no entries:", m, is)
		}
	}
}

func TestGetSharesNothing(t *testing.T) {
	d, _ := members.Dict("a=1;x=1, b=(1;x=1 2;y=1);z=1")
	want, _ := members.Dict("a=1;x=1, b=(1;x=1 2;y=1);z=1")
	for _, key := range []string{"a", "b"} {
		m, _ := members.Get(d, key)
		for _, l := range [][]item.Param{m.Item.Params, m.Params} {
			for i := range l {
				l[i].Key = "changed"
			}
		}
		for i := range m.Items {
			for j := range m.Items[i].Params {
				m.Items[i].Params[j].Key = "changed"
			}
			m.Items[i].Value = token("changed")
		}
	}
	if !slices.EqualFunc(d, want, equalEntries) {
		t.Error("the entries were changed:", d)
	}
}

// P4.2: members that are the same.

func TestSame(t *testing.T) {
	one, two, a, b := with(integer(1)), with(integer(2)), param("a", integer(1)), param("b", integer(2))
	all := []members.Member{
		{}, {Inner: true}, {Item: one}, {Inner: true, Item: one}, {Item: two}, {Item: with(decimal(1))}, {Item: with(token("1"))},
		{Items: []item.Item{one}}, {Params: list(a)}, {Item: with(integer(1), a)}, {Item: with(integer(1), b)}, {Item: with(integer(1), a, b)}, {Item: with(integer(1), b, a)}, {Item: one, Params: list(a)}, {Item: one, Items: []item.Item{one}},
		inner(nil, one), inner(nil, two), inner(nil, one, two), inner(nil, two, one), inner(nil, one, one), inner(nil, one, two, one), inner(nil, item.Item{}), inner(nil, with(integer(1), a)), inner(nil, with(integer(1), b)), inner(nil, one, with(integer(2), a)),
		inner(list(a), one), inner(list(b), one), inner(list(a, b), one), inner(list(b, a), one), inner(list(a, a), one), inner(list(param("a", integer(2))), one), inner(list(item.Param{}), one), inner(list(a)), inner(list(a), one, two),
		single(boolean(1)), single(api.Bare{Kind: 9, N: 1, S: "a"}), single(api.Bare{Kind: api.Integer, N: 1, S: "a"}),
	}
	for i, x := range all {
		for j, y := range all {
			copied := y
			copied.Items, copied.Params, copied.Item.Params = slices.Clone(y.Items), slices.Clone(y.Params), slices.Clone(y.Item.Params)
			if got := members.Same(x, copied); got != (i == j) {
				t.Errorf("Same(%+v, %+v) = %v", x, y, got)
			}
		}
	}
	empty := members.Member{Item: item.Item{Params: []item.Param{}}, Items: []item.Item{}, Params: []item.Param{}}
	if !members.Same(empty, members.Member{}) || !members.Same(members.Member{}, empty) {
		t.Error("nil and empty parts differ")
	}
}

// R3: arguments remain as they are.

func TestArgumentsRemain(t *testing.T) {
	made := func() []members.Entry {
		a, b := param("a", boolean(1)), param("b", integer(2))
		return []members.Entry{
			entry("b", single(integer(2), b, a)), entry("a", inner(list(b, a), with(integer(1), b, a), with(token("x"), a))), entry("c", single(boolean(1), b)), entry("b", members.Member{}), entry("A", inner(list(a, a))),
		}
	}
	d := made()
	for n := range len(d) + 1 {
		members.PrintDict(d[:n])
		var l []members.Member
		for _, e := range d[:n] {
			l = append(l, e.Value)
			members.Same(e.Value, d[0].Value)
			members.Get(d[:n], e.Key)
		}
		members.PrintList(l)
	}
	if !slices.EqualFunc(d, made(), equalEntries) {
		t.Error("changed:", d)
	}
}

// R4 and R5: the same call answers the same again, beside others too.

func TestCallsAtTheSameTime(t *testing.T) {
	const s = "c=(1;x 2);y, b, a=1, c=2;z, d;q=1"
	want := []members.Entry{entry("c", single(integer(2), param("z", boolean(1)))), entry("b", single(boolean(1))), entry("a", single(integer(1))), entry("d", single(boolean(1), param("q", integer(1))))}
	var group sync.WaitGroup
	for range 8 {
		group.Go(func() {
			for range 500 {
				d, e := members.Dict(s)
				printed, e2 := members.PrintDict(want)
				if !slices.EqualFunc(d, want, equalEntries) || e != api.OK || printed != "c=2;z, b, a=1, d;q=1" || e2 != api.OK {
					t.Error("another answer beside other calls:", d, e, printed, e2)
				}
			}
		})
	}
	group.Wait()
}
