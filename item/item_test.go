package item_test

import (
	"fmt"
	"math"
	"slices"
	"strconv"
	"strings"
	"sync"
	"testing"

	"scullery/api"
	"scullery/bare"
	"scullery/item"
)

const (
	keyBegins = "abcdefghijklmnopqrstuvwxyz*"
	keyBytes  = keyBegins + "0123456789_-."
	many      = 100000
	limit     = 1_000_000_000_000_000
)

func integer(n int64) api.Bare     { return api.Bare{Kind: api.Integer, N: n} }
func decimal(n int64) api.Bare     { return api.Bare{Kind: api.Decimal, N: n} }
func quoted(s string) api.Bare     { return api.Bare{Kind: api.String, S: s} }
func token(s string) api.Bare      { return api.Bare{Kind: api.Token, S: s} }
func binary(s string) api.Bare     { return api.Bare{Kind: api.Bytes, S: s} }
func boolean(n int64) api.Bare     { return api.Bare{Kind: api.Boolean, N: n} }
func oneByte(c int) string         { return string([]byte{byte(c)}) }
func within(s string, c byte) bool { return strings.IndexByte(s, c) >= 0 }

func param(key string, value api.Bare) item.Param { return item.Param{Key: key, Value: value} }
func list(l ...item.Param) []item.Param           { return l }
func with(value api.Bare, params ...item.Param) item.Item {
	return item.Item{Value: value, Params: params}
}

// eachText calls f with all texts over the alphabet of at most that length, the empty one among them.
func eachText(alphabet string, most int, f func(string)) {
	var longer func(s string)
	longer = func(s string) {
		f(s)
		for i := range len(alphabet) {
			if len(s) < most {
				longer(s + alphabet[i:i+1])
			}
		}
	}
	longer("")
}

func everyByte() string {
	b := make([]byte, 256)
	for i := range b {
		b[i] = byte(i)
	}
	return string(b)
}

// brief returns x for a message, cut off where it is long.
func brief(x any) string {
	s := fmt.Sprintf("%+v", x)
	return fmt.Sprintf("%.200q", s)
}

// equal is Same by the words of the document, part for part.
func equal(a, b item.Item) bool {
	if a.Value != b.Value || len(a.Params) != len(b.Params) {
		return false
	}
	for i := range a.Params {
		if a.Params[i].Key != b.Params[i].Key || a.Params[i].Value != b.Params[i].Value {
			return false
		}
	}
	return true
}

// valid is what the document calls a valid item.
func valid(x item.Item) bool {
	for i, p := range x.Params {
		if !isKey(p.Key) || !bare.Right(p.Value) {
			return false
		}
		for _, before := range x.Params[:i] {
			if before.Key == p.Key {
				return false
			}
		}
	}
	return bare.Right(x.Value)
}

func isKey(s string) bool { return s != "" && keyPrefix(s) == s }

// keyPrefix returns the longest key with which s begins, tried from the longest prefix down.
func keyPrefix(s string) string {
	for n := len(s); n > 0; n-- {
		rest := strings.Map(func(r rune) rune {
			if strings.ContainsRune(keyBytes, r) {
				return -1
			}
			return r
		}, s[:n])
		if rest == "" && within(keyBegins, s[0]) {
			return s[:n]
		}
	}
	return ""
}

// P3.1: keys.

func checkKey(t *testing.T, s string, want string) {
	t.Helper()
	if got := item.Key(s); got != (s != "" && s == want) {
		t.Errorf("Key(%s) = %v", brief(s), got)
	}
	wantErr := api.OK
	if want == "" {
		wantErr = api.ErrForm
	}
	if k, n, e := item.ReadKey(s); k != want || n != len(want) || e != wantErr {
		t.Errorf("ReadKey(%s) = %s, %d, %d; not %s, %d, %d", brief(s), brief(k), n, e, brief(want), len(want), wantErr)
	}
}

func TestKeysOfWords(t *testing.T) {
	for _, s := range []string{"a", "z", "*", "**", "*a", "a*", "max-age", "a_b", "a.b", "a1", "*1", "*-", "a--", "a..", "a__", "q", "s-maxage", "a0123456789", "z" + keyBytes, "*" + keyBytes} {
		checkKey(t, s, s)
		for _, behind := range []string{"=", ";", " ", ",", "A", "Z", "\t", "/", ":", "!", "+", "`", "{", "@", "[", "\"", "(", ")", "\x00", "\x7f", "\x80", "\xff", "\u00e9"} {
			checkKey(t, s+behind, s)
			checkKey(t, s+behind+"a", s)
		}
	}
	for _, s := range []string{"", "A", "Z", "0", "9", "1a", "-a", "_a", ".a", "-", "_", ".", " a", "\ta", ";a", "=", "=a", "\"a\"", "?1", ":a", "/a", "+a", "`a", "{a", "\x00", "\x7f", "\x80", "\xffa", "\u00e9", "\uff41"} {
		checkKey(t, s, "")
	}
}

func TestKeysOfEachPairOfBytes(t *testing.T) {
	eachText(everyByte(), 2, func(s string) { checkKey(t, s, keyPrefix(s)) })
}

func TestKeysOfEachFurtherByte(t *testing.T) {
	for c := range 256 {
		s := "ab" + oneByte(c) + "c"
		if within(keyBytes, byte(c)) {
			checkKey(t, s, s)
		} else {
			checkKey(t, s, "ab")
		}
	}
}

func TestKeysOfAllShortTexts(t *testing.T) {
	eachText("a*9_-.A=", 5, func(s string) { checkKey(t, s, keyPrefix(s)) })
}

func TestLongKeys(t *testing.T) {
	long := strings.Repeat("a-*9", many)
	checkKey(t, long, long)
	checkKey(t, long+"=1", long)
	checkKey(t, "-"+long, "")
}

// P3.3: the text of items and of parameters.

func TestPrint(t *testing.T) {
	for _, c := range []struct {
		x    item.Item
		want string
	}{
		{with(integer(5)), "5"},
		{item.Item{Value: integer(5), Params: []item.Param{}}, "5"},
		{with(integer(5), param("a", integer(2)), param("b", boolean(0))), "5;a=2;b=?0"},
		{with(boolean(1)), "?1"},
		{with(boolean(0)), "?0"},
		{with(boolean(1), param("a", boolean(1))), "?1;a"},
		{with(boolean(0), param("a", boolean(0))), "?0;a=?0"},
		{with(token("text/html"), param("q", decimal(500)), param("level", integer(1))), "text/html;q=0.5;level=1"},
		{with(quoted(`a;b="`), param("*", quoted(""))), `"a;b=\"";*=""`},
		{with(binary("hello"), param("x", binary("")), param("y", boolean(1)), param("z", token("*"))), ":aGVsbG8=:;x=::;y;z=*"},
		{with(decimal(-50), param("a", decimal(1000)), param("b", integer(-7))), "-0.05;a=1.0;b=-7"},
		{with(integer(1), param("a", integer(1)), param("b", integer(1))), "1;a=1;b=1"},
		{with(integer(1), param("b", integer(1)), param("a", integer(1))), "1;b=1;a=1"},
		{with(integer(1), param("z"+keyBytes, token("t"))), "1;z" + keyBytes + "=t"},
		{with(integer(limit-1), param("a", integer(1-limit))), "999999999999999;a=-999999999999999"},
	} {
		if s, e := item.Print(c.x); s != c.want || e != api.OK {
			t.Errorf("Print(%+v) = %q, %d; not %q", c.x, s, e, c.want)
		}
	}
}

func TestPrintParams(t *testing.T) {
	for _, c := range []struct {
		l    []item.Param
		want string
	}{
		{nil, ""},
		{list(), ""},
		{list(param("a", boolean(1))), ";a"},
		{list(param("a", boolean(0))), ";a=?0"},
		{list(param("a", integer(1))), ";a=1"},
		{list(param("a", decimal(1))), ";a=0.001"},
		{list(param("a", token("b"))), ";a=b"},
		{list(param("a", quoted("?1"))), `;a="?1"`},
		{list(param("a", binary("\xff"))), ";a=:/w==:"},
		{list(param("b", boolean(1)), param("a", boolean(1)), param("*", boolean(1))), ";b;a;*"},
		{list(param("a", boolean(1)), param("aa", integer(1)), param("a.", boolean(1))), ";a;aa=1;a."},
	} {
		if s, e := item.PrintParams(c.l); s != c.want || e != api.OK {
			t.Errorf("PrintParams(%+v) = %q, %d; not %q", c.l, s, e, c.want)
		}
	}
}

func checkInvalidParams(t *testing.T, l ...item.Param) {
	t.Helper()
	if s, e := item.PrintParams(l); s != "" || e != api.ErrForm {
		t.Errorf("PrintParams(%+v) = %q, %d", l, s, e)
	}
	if s, e := item.Print(item.Item{Value: integer(1), Params: l}); s != "" || e != api.ErrForm {
		t.Errorf("Print of 1 with %+v = %q, %d", l, s, e)
	}
}

func invalidValues() []api.Bare {
	return []api.Bare{
		{}, {Kind: 7}, {Kind: -1}, {N: 1}, {S: "a"}, {Kind: math.MaxInt},
		integer(limit), integer(-limit), decimal(limit), decimal(math.MinInt64), boolean(2), boolean(-1), token(""), token("1a"), token("a b"), quoted("\n"), quoted("\x80"),
		{Kind: api.Boolean, N: 1, S: "a"}, {Kind: api.Boolean, S: "?"}, {Kind: api.Integer, S: "1"}, {Kind: api.String, N: 1}, {Kind: api.Bytes, N: 1}, {Kind: api.Token, N: 1, S: "a"},
	}
}

func TestPrintOfInvalidValues(t *testing.T) {
	good := param("b", integer(1))
	for _, b := range invalidValues() {
		for _, x := range []item.Item{with(b), with(b, good), with(b, param("a", b))} {
			if s, e := item.Print(x); s != "" || e != api.ErrForm {
				t.Errorf("Print(%+v) = %q, %d", x, s, e)
			}
		}
		checkInvalidParams(t, param("a", b))
		checkInvalidParams(t, param("a", b), good)
		checkInvalidParams(t, good, param("a", b))
	}
}

func TestPrintOfInvalidKeys(t *testing.T) {
	good := param("b", integer(1))
	for _, key := range []string{"", "A", "1", "-a", "_", ".", "a b", "a=", "a;", "aB", " a", "a ", "a\t", "a\x00", "a\x80", "\u00e9", "a,b", "a/b", "a:b"} {
		for _, value := range []api.Bare{boolean(1), boolean(0), integer(1)} {
			checkInvalidParams(t, param(key, value))
			checkInvalidParams(t, param(key, value), good)
			checkInvalidParams(t, good, param(key, value))
		}
	}
	eachText(everyByte(), 2, func(s string) {
		_, e := item.PrintParams(list(param(s, boolean(1))))
		if (e == api.OK) != isKey(s) {
			t.Errorf("PrintParams with the key %q: %d", s, e)
		}
	})
}

func TestPrintOfEqualKeys(t *testing.T) {
	a, b, c := param("a", integer(1)), param("b", integer(2)), param("c", boolean(1))
	checkInvalidParams(t, a, a)
	checkInvalidParams(t, a, param("a", integer(2)))
	checkInvalidParams(t, a, param("a", boolean(1)))
	checkInvalidParams(t, c, c)
	checkInvalidParams(t, a, b, a)
	checkInvalidParams(t, a, b, c, b)
	checkInvalidParams(t, b, b, a)
	checkInvalidParams(t, param("*", a.Value), a, param("*", b.Value))
}

func TestPrintOfManyParams(t *testing.T) {
	var l []item.Param
	var want strings.Builder
	for i := range many {
		key := "k" + strconv.Itoa(i)
		l = append(l, param(key, boolean(1)))
		want.WriteString(";" + key)
	}
	if s, e := item.PrintParams(l); s != want.String() || e != api.OK {
		t.Error("many parameters:", len(s), e)
	}
	if s, e := item.PrintParams(append(l, l[0])); s != "" || e != api.ErrForm {
		t.Error("many parameters, the first again:", len(s), e)
	}
}

// P3.3: items that are the same.

func TestSame(t *testing.T) {
	a, b := param("a", integer(1)), param("b", integer(2))
	all := []item.Item{
		{}, with(integer(0)), with(integer(1)), with(decimal(1)), with(boolean(1)), with(quoted("a")), with(token("a")), with(binary("a")), with(token("A")),
		with(integer(1), a), with(integer(1), b), with(integer(1), a, b), with(integer(1), b, a), with(integer(2), a), with(integer(1), a, a), with(integer(1), a, b, a),
		with(integer(1), param("a", integer(2))), with(integer(1), param("a", decimal(1))), with(integer(1), param("a", boolean(1))), with(integer(1), param("b", integer(1))), with(integer(1), item.Param{}),
		with(api.Bare{}, a), with(api.Bare{Kind: 9, N: 1, S: "a"}), with(api.Bare{Kind: api.Integer, N: 1, S: "a"}), with(integer(1), param("A", integer(1))), with(integer(1), param("a", api.Bare{Kind: api.Integer, N: 1, S: "a"})),
	}
	for i, x := range all {
		for j, y := range all {
			copied := item.Item{Value: y.Value, Params: slices.Clone(y.Params)}
			if got := item.Same(x, copied); got != (i == j) {
				t.Errorf("Same(%+v, %+v) = %v", x, y, got)
			}
		}
	}
	if !item.Same(item.Item{Value: integer(1)}, item.Item{Value: integer(1), Params: []item.Param{}}) {
		t.Error("nil and empty parameters differ")
	}
}

// R3: arguments remain as they are.

func TestArgumentsRemain(t *testing.T) {
	l := list(param("b", integer(2)), param("a", boolean(1)), param("b", integer(3)), param("A", boolean(7)))
	before := slices.Clone(l)
	for n := range len(l) + 1 {
		item.PrintParams(l[:n])
		item.Print(item.Item{Value: integer(1), Params: l[:n]})
		item.Same(item.Item{Params: l[:n]}, item.Item{Params: l})
	}
	if !slices.Equal(l, before) {
		t.Error("changed:", l)
	}
}

// R4 and R5: the same call answers the same again, beside others too.

func TestCallsAtTheSameTime(t *testing.T) {
	const s = "5;a;b=?0;c=:aGk=:;a=2"
	want := with(integer(5), param("a", integer(2)), param("b", boolean(0)), param("c", binary("hi")))
	var group sync.WaitGroup
	for range 8 {
		group.Go(func() {
			for range 500 {
				x, e := item.Parse(s)
				printed, e2 := item.Print(want)
				if !equal(x, want) || e != api.OK || printed != "5;a=2;b=?0;c=:aGk=:" || e2 != api.OK || !item.Same(x, want) {
					t.Error("another answer beside other calls:", x, e, printed, e2)
				}
			}
		})
	}
	group.Wait()
}
