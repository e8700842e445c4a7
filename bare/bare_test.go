package bare_test

import (
	"math"
	"regexp"
	"strconv"
	"strings"
	"sync"
	"testing"

	"scullery/api"
	"scullery/bare"
)

const (
	letters    = "ABCDEFGHIJKLMNOPQRSTUVWXYZabcdefghijklmnopqrstuvwxyz"
	tokenBytes = letters + "0123456789!#$%&'*+-.^_`|~:/"
	limit      = 1_000_000_000_000_000
)

func integer(n int64) api.Bare     { return api.Bare{Kind: api.Integer, N: n} }
func decimal(n int64) api.Bare     { return api.Bare{Kind: api.Decimal, N: n} }
func quoted(s string) api.Bare     { return api.Bare{Kind: api.String, S: s} }
func token(s string) api.Bare      { return api.Bare{Kind: api.Token, S: s} }
func binary(s string) api.Bare     { return api.Bare{Kind: api.Bytes, S: s} }
func boolean(n int64) api.Bare     { return api.Bare{Kind: api.Boolean, N: n} }
func oneByte(c int) string         { return string([]byte{byte(c)}) }
func zeros(n int) string           { return strings.Repeat("0", n) }
func nines(n int) string           { return strings.Repeat("9", n) }
func within(s string, c byte) bool { return strings.IndexByte(s, c) >= 0 }

// eachText calls f with all texts over the alphabet of at most that length, the empty one among them.
func eachText(alphabet string, most int, f func(string)) {
	var longer func(s string)
	longer = func(s string) {
		f(s)
		for i := range len(alphabet) {
			if len(s) < most {
				longer(s + alphabet[i:i+1])
			}
		}
	}
	longer("")
}

func everyByte() string {
	b := make([]byte, 256)
	for i := range b {
		b[i] = byte(i)
	}
	return string(b)
}

// checkRead holds an answer of Read against what is wanted; a length of 0 stands for ErrForm.
func checkRead(t *testing.T, s string, want api.Bare, length int) {
	t.Helper()
	wantErr := api.OK
	if length == 0 {
		want, wantErr = api.Bare{}, api.ErrForm
	}
	if b, n, e := bare.Read(s); b != want || n != length || e != wantErr {
		t.Errorf("Read(%q) = %+v, %d, %d; not %+v, %d, %d", s, b, n, e, want, length, wantErr)
	}
}

func checkRefused(t *testing.T, texts ...string) {
	t.Helper()
	for _, s := range texts {
		checkRead(t, s, api.Bare{}, 0)
	}
}

// checkAll holds Read against want for s alone, and ahead of what can't belong to the item.
func checkAll(t *testing.T, s string, want api.Bare, behind ...string) {
	t.Helper()
	checkRead(t, s, want, len(s))
	for _, rest := range behind {
		checkRead(t, s+rest, want, len(s))
	}
}

// P2.1: what is valid, and the text of it.

func validItems() map[api.Bare]string {
	return map[api.Bare]string{
		integer(0): "0", integer(7): "7", integer(-7): "-7", integer(10): "10", integer(-1200): "-1200", integer(api.Top): "2147483648",
		integer(limit - 1): nines(15), integer(1 - limit): "-" + nines(15),
		decimal(0): "0.0", decimal(1): "0.001", decimal(10): "0.01", decimal(100): "0.1", decimal(999): "0.999", decimal(1000): "1.0", decimal(1001): "1.001",
		decimal(1010): "1.01", decimal(1100): "1.1", decimal(1500): "1.5", decimal(101): "0.101", decimal(120): "0.12", decimal(10000): "10.0", decimal(100200): "100.2",
		decimal(-1): "-0.001", decimal(-50): "-0.05", decimal(-500): "-0.5", decimal(-1000): "-1.0", decimal(-1230): "-1.23",
		decimal(limit - 1): nines(12) + ".999", decimal(1 - limit): "-" + nines(12) + ".999", decimal(limit - 1000): nines(12) + ".0",
		quoted(""): `""`, quoted("a b"): `"a b"`, quoted(`"`): `"\""`, quoted(`\`): `"\\"`, quoted(`a"b\c`): `"a\"b\\c"`, quoted(`\"`): `"\\\""`, quoted(" "): `" "`, quoted("~"): `"~"`, quoted("?1:,;="): `"?1:,;="`,
		token("a"): "a", token("Z"): "Z", token("*"): "*", token("a:b/c"): "a:b/c", token("*/*"): "*/*", token("a1"): "a1", token("a" + tokenBytes): "a" + tokenBytes, token("text/html"): "text/html",
		binary(""): "::", binary("\xff"): ":/w==:", binary("hi"): ":aGk=:", binary("hello"): ":aGVsbG8=:", binary("abc"): ":YWJj:", binary("\x00\n\""): ":AAoi:",
		boolean(0): "?0", boolean(1): "?1",
	}
}

func TestPrintOfValidItems(t *testing.T) {
	for b, want := range validItems() {
		if !bare.Right(b) {
			t.Errorf("Right(%+v) = false", b)
		}
		if s, e := bare.Print(b); s != want || e != api.OK {
			t.Errorf("Print(%+v) = %q, %d; not %q", b, s, e, want)
		}
	}
}

func checkInvalid(t *testing.T, items ...api.Bare) {
	t.Helper()
	for _, b := range items {
		if bare.Right(b) {
			t.Errorf("Right(%+v) = true", b)
		}
		if s, e := bare.Print(b); s != "" || e != api.ErrForm {
			t.Errorf("Print(%+v) = %q, %d", b, s, e)
		}
	}
}

func TestInvalidItems(t *testing.T) {
	checkInvalid(t, integer(limit), integer(-limit), integer(limit+1), integer(math.MaxInt64), integer(math.MinInt64))
	checkInvalid(t, decimal(limit), decimal(-limit), decimal(-limit-1), decimal(math.MaxInt64), decimal(math.MinInt64))
	checkInvalid(t, quoted("\x1f"), quoted("\x7f"), quoted("a\nb"), quoted("\t"), quoted("\x00"), quoted("\x80"), quoted("caf\u00e9"), quoted("ok\xff"))
	checkInvalid(t, token(""), token("1a"), token(":a"), token("/"), token("-a"), token("_"), token("a b"), token("a,"), token("a;b"), token("a=b"), token(`a"`), token(" a"), token("a "), token("a\x80"), token("a\x00"), token("\u00e9"))
	checkInvalid(t, boolean(2), boolean(-1), boolean(math.MaxInt64), boolean(math.MinInt64), boolean(256))
}

func TestKindsThatAreNone(t *testing.T) {
	for _, kind := range []int{0, -1, 7, 8, 255, 256 + api.Integer, math.MaxInt, math.MinInt} {
		checkInvalid(t, api.Bare{Kind: kind}, api.Bare{Kind: kind, N: 1}, api.Bare{Kind: kind, S: "a"}, api.Bare{Kind: kind, N: 1, S: "a"})
	}
}

func TestFieldsThatAKindDoesNotUse(t *testing.T) {
	for b := range validItems() {
		for _, n := range []int64{1, -1, math.MinInt64} {
			if b.Kind == api.String || b.Kind == api.Token || b.Kind == api.Bytes {
				checkInvalid(t, api.Bare{Kind: b.Kind, N: n, S: b.S})
			}
		}
		for _, s := range []string{"a", "0", " ", "\x00"} {
			if b.Kind == api.Integer || b.Kind == api.Decimal || b.Kind == api.Boolean {
				checkInvalid(t, api.Bare{Kind: b.Kind, N: b.N, S: s})
			}
		}
	}
}

func TestItemsOfEachPairOfBytes(t *testing.T) {
	eachText(everyByte(), 2, func(s string) {
		inString, inToken := true, s != "" && within(letters+"*", s[0])
		for i := range len(s) {
			inString = inString && s[i] >= 32 && s[i] <= 126
			inToken = inToken && within(tokenBytes, s[i])
		}
		if bare.Right(quoted(s)) != inString || bare.Right(token(s)) != inToken || !bare.Right(binary(s)) {
			t.Errorf("%q: String %v, Token %v, Bytes %v", s, bare.Right(quoted(s)), bare.Right(token(s)), bare.Right(binary(s)))
		}
	})
}

func TestDecimalsByDivision(t *testing.T) {
	for n := int64(-2100); n <= 2100; n++ {
		want := strconv.FormatFloat(float64(n)/1000, 'f', -1, 64)
		if !strings.Contains(want, ".") {
			want += ".0"
		}
		if s, e := bare.Print(decimal(n)); s != want || e != api.OK {
			t.Errorf("Print of %d thousandths = %q, %d; not %q", n, s, e, want)
		}
	}
}

// P2.2: numbers.

// numberForm takes as many digits as there are, and a dot with all digits behind it.
var numberForm = regexp.MustCompile(`^(-?)([0-9]*)(?:(\.)([0-9]*))?`)

// readByForm is Read of a text that begins with - or a digit, by the words of the document.
func readByForm(s string) (api.Bare, int) {
	m := numberForm.FindStringSubmatch(s)
	sign, whole, dot, places := m[1], m[2], m[3], m[4]
	if dot == "" {
		if len(whole) < 1 || len(whole) > 15 {
			return api.Bare{}, 0
		}
		n, _ := strconv.ParseInt(sign+whole, 10, 64)
		return integer(n), len(m[0])
	}
	if len(whole) < 1 || len(whole) > 12 || len(places) < 1 || len(places) > 3 {
		return api.Bare{}, 0
	}
	n, _ := strconv.ParseInt(sign+whole+places+zeros(3-len(places)), 10, 64)
	return decimal(n), len(m[0])
}

func TestReadOfAllShortNumbers(t *testing.T) {
	eachText("019.-a", 7, func(s string) {
		if s == "" || !within("-019", s[0]) {
			return
		}
		want, length := readByForm(s)
		checkRead(t, s, want, length)
	})
}

func TestReadOfEachCountOfDigits(t *testing.T) {
	for _, sign := range []string{"", "-"} {
		for _, digit := range []string{"0", "1", "9"} {
			for whole := range 25 {
				integral := sign + strings.Repeat(digit, whole)
				if integral == "" {
					continue
				}
				want, length := readByForm(integral)
				checkRead(t, integral, want, length)
				for places := range 8 {
					s := integral + "." + strings.Repeat(digit, places)
					want, length := readByForm(s)
					checkRead(t, s, want, length)
					checkRead(t, s+";a", want, length)
				}
			}
		}
	}
}

func TestReadOfIntegers(t *testing.T) {
	behind := []string{" ", ",", ";a", "a", "-", "-1", "=", "\x00", "\xff", ":", "/", "e5", "_0", "\u0661"}
	for s, n := range map[string]int64{
		"0": 0, "-0": 0, "00": 0, "-000": 0, "42": 42, "-42": -42, "007": 7, "-0042": -42, "2147483648": 1 << 31, "4294967297": 1<<32 + 1,
		nines(15): limit - 1, "-" + nines(15): 1 - limit, zeros(15): 0, "-" + zeros(15): 0, zeros(14) + "5": 5, "100000000000000": limit / 10, "1234567890123": 1234567890123,
	} {
		checkAll(t, s, integer(n), behind...)
	}
	checkRefused(t, nines(16), "-"+nines(16), "1"+zeros(15), zeros(16), "-"+zeros(16), zeros(15)+"1", nines(19), nines(20), nines(1000), zeros(1000), "18446744073709551616", nines(16)+";a")
	checkRefused(t, "-", "--1", "-a", "- 1", "-;", "-.5", "-+1", "-\x00", "-:", "-/")
}

func TestReadOfDecimals(t *testing.T) {
	behind := []string{" ", ",", ";a", "a", "-", ".", ".5", "=", "\x00", "\xff", "e5", ":", "/"}
	for s, n := range map[string]int64{
		"0.0": 0, "-0.0": 0, "-0.000": 0, "1.5": 1500, "1.50": 1500, "1.500": 1500, "1.05": 1050, "1.005": 1005, "0.001": 1, "-0.125": -125, "-0.05": -50, "4.5": 4500, "0012.25": 12250, "-1.999": -1999,
		nines(12) + ".999": limit - 1, "-" + nines(12) + ".999": 1 - limit, nines(12) + ".9": limit - 100, nines(12) + ".0": limit - 1000, zeros(12) + ".001": 1, zeros(11) + "1.2": 1200,
	} {
		checkAll(t, s, decimal(n), behind...)
	}
	checkRefused(t, "1.", "-1.", "0.", "1.a", "1.-1", "1. 5", "1..5", "1.;a", nines(12)+".", nines(13)+".", nines(15)+".", "1./", "1.:")
	checkRefused(t, "1.2345", "1.0000", "-1.5000", "1."+nines(1000), nines(12)+".9999")
	checkRefused(t, nines(13)+".1", zeros(13)+".1", "-"+nines(13)+".5", nines(14)+".1", nines(15)+".1", nines(16)+".1", "1"+zeros(12)+".0", nines(13)+".1;a")
}

func TestReadOfTheExample(t *testing.T) { checkRead(t, "1.50;a", decimal(1500), 4) }

// P2.2: Strings.

// stringForm is a String as the document says it; its length is 0 if there is none.
var stringForm = regexp.MustCompile(`^"((?:[ !#-\[\]-~]|\\["\\])*)"`)

var escapeForm = regexp.MustCompile(`\\(.)`)

func TestReadOfAllShortStrings(t *testing.T) {
	eachText("\"\\a \x1f\x7f", 6, func(s string) {
		s = `"` + s
		m := stringForm.FindStringSubmatch(s)
		if m == nil {
			checkRefused(t, s)
			return
		}
		checkRead(t, s, quoted(escapeForm.ReplaceAllString(m[1], "$1")), len(m[0]))
	})
}

func TestReadOfStrings(t *testing.T) {
	behind := []string{" ", ",", ";a", `"`, `""`, `\`, "a", "\x00", "\xff", "\n"}
	for s, want := range map[string]string{
		`""`: "", `" "`: " ", `"a b"`: "a b", `"\""`: `"`, `"\\"`: `\`, `"\\\""`: `\"`, `"\"\\"`: `"\`, `"a\"b\\c"`: `a"b\c`, `"\\\\"`: `\\`, `"\\n"`: `\n`, `"~"`: "~", `",;=?1:"`: ",;=?1:", `"'"`: "'",
	} {
		checkAll(t, s, quoted(want), behind...)
	}
	checkRefused(t, `"`, `"a`, `"a\"`, `"a\\`, `"\`, `"a\`, `"\\\"`, `" `)
	checkRefused(t, `"\a"`, `"\n"`, `"\ "`, `"\'"`, `"\/"`, "\"\\\x00\"", "\"\\\x7f\"", "\"\\\xff\"", `"a\u0041"`)
	checkRefused(t, "\"caf\u00e9\"", "\"a\nb\"", "\"\r\n\"", "\"\t\"")
}

func TestReadOfStringsOfEachByte(t *testing.T) {
	for c := range 256 {
		s, length := `"x`+oneByte(c)+`y"`, 5
		if c < 32 || c > 126 || c == '\\' {
			length = 0
		}
		want := quoted("x" + oneByte(c) + "y")
		if c == '"' {
			want, length = quoted("x"), 3
		}
		checkRead(t, s, want, length)
		length = 4
		if c != '"' && c != '\\' {
			length = 0
		}
		checkRead(t, `"\`+oneByte(c)+`"`, quoted(oneByte(c)), length)
	}
}

// P2.2: Tokens.

func TestReadOfTokens(t *testing.T) {
	behind := []string{" ", ",", ";a", "=", `"`, "(", ")", "@", "[", "]", "{", "}", "<", ">", "?", `\`, "\x00", "\x7f", "\x80", "\u00e9"}
	for _, s := range []string{"a", "Z", "*", "**", "a:b", "a/b", "*a/b:c", "a:", "a/", "a::", "a//", "text/html", "a1", "a-1.5", "*" + tokenBytes, "GET"} {
		checkAll(t, s, token(s), behind...)
	}
}

func TestReadOfTokensOfEachByte(t *testing.T) {
	for c := range 256 {
		s, length := "a"+oneByte(c)+"b", 1
		if within(tokenBytes, byte(c)) {
			length = 3
		}
		checkRead(t, s, token(s[:length]), length)
	}
}

// P2.2: Bytes.

func TestReadOfBytes(t *testing.T) {
	behind := []string{" ", ",", ";a", ":", "::", "=", "a", "\x00", "\xff"}
	for s, want := range map[string]string{
		"::": "", ":AA==:": "\x00", ":AAA=:": "\x00\x00", ":AAAA:": "\x00\x00\x00", ":aGVsbG8=:": "hello", ":/w==:": "\xff", "://8=:": "\xff\xff", ":////:": "\xff\xff\xff", ":+/+/:": "\xfb\xff\xbf", ":YWJjZA==:": "abcd",
	} {
		checkAll(t, s, binary(want), behind...)
	}
	checkRefused(t, ":", ":a", ":AAAA", ":AA==", ":AA==;a", ": ", ":?1", ":aGVsbG8=;")
	checkRefused(t, ":a:", ":aGk:", ":aG k=:", ":aGVsbG9=:", ":=:", ":==:", ":====:", ":AA=:", ":AA===:", ":AAAA====:", ": AAAA:", ":AAAA :", ":AA\nAA:", ":AA-_:", ":A\x00==:", ":A\xff==:")
}

// P2.2: Booleans.

func TestReadOfBooleans(t *testing.T) {
	behind := []string{" ", "0", "1", "?", "?1", ";a", ",", "a", "\x00", "\xff"}
	checkAll(t, "?0", boolean(0), behind...)
	checkAll(t, "?1", boolean(1), behind...)
	for c := range 256 {
		if c != '0' && c != '1' {
			checkRefused(t, "?"+oneByte(c), "?"+oneByte(c)+"1")
		}
	}
	checkRefused(t, "?", "? 1", "?-1", "??1", "?T", "?true")
}

// P2.2: the first byte says which Kind it is.

func TestReadByTheFirstByte(t *testing.T) {
	checkRefused(t, "")
	for c := range 256 {
		first := oneByte(c)
		switch {
		case within("0123456789", byte(c)):
			checkRead(t, first, integer(int64(c-'0')), 1)
		case within(letters+"*", byte(c)):
			checkRead(t, first, token(first), 1)
		case within(`-":?`, byte(c)):
			checkRefused(t, first)
		default:
			checkRefused(t, first, first+"1", first+"a", first+`"a"`, first+"?1", first+"::", first+first)
		}
	}
	checkRefused(t, " 1", "\t1", "+1", ".5", "(1)", "=1", ";a", ",", "@1", "'a'", "_a", "\u0661", "\u00e9", "[", "{", "`a", "/a")
}

func TestReadOfLongTexts(t *testing.T) {
	const many = 200000
	long := strings.Repeat("a", many)
	checkAll(t, long, token(long), ",")
	checkAll(t, `"`+long+`"`, quoted(long), `"`)
	checkAll(t, `"`+strings.Repeat(`\"`, many)+`"`, quoted(strings.Repeat(`"`, many)), `"`)
	checkAll(t, ":"+strings.Repeat("YWFh", many)+":", binary(strings.Repeat("aaa", many)), ":")
	checkRefused(t, `"`+long, `"`+strings.Repeat(`\`, many), ":"+long, ":"+strings.Repeat("=", many)+":", nines(many), "1."+nines(many), strings.Repeat("-", many))
}

// P2.3: the theorem.

func checkPrintedIsRead(t *testing.T, b api.Bare) {
	t.Helper()
	s, e := bare.Print(b)
	if e != api.OK {
		t.Errorf("Print(%+v): error %d", b, e)
		return
	}
	checkRead(t, s, b, len(s))
}

func TestPrintedItemsAreRead(t *testing.T) {
	for b := range validItems() {
		checkPrintedIsRead(t, b)
	}
	for n := int64(-2500); n <= 2500; n++ {
		for _, around := range []int64{0, limit/1000 - 2501, limit - 2501, 2501 - limit} {
			checkPrintedIsRead(t, integer(around+n))
			checkPrintedIsRead(t, decimal(around+n))
		}
	}
	for n := int64(1); n < limit; n *= 10 {
		for _, b := range []api.Bare{integer(n), integer(-n), integer(n - 1), decimal(n), decimal(-n), decimal(n - 1), decimal(n + 1)} {
			checkPrintedIsRead(t, b)
		}
	}
	eachText(everyByte(), 2, func(s string) {
		for _, b := range []api.Bare{quoted(s), token(s), binary(s)} {
			if bare.Right(b) {
				checkPrintedIsRead(t, b)
			}
		}
	})
}

func TestWhatIsReadIsPrintedAndReadAgain(t *testing.T) {
	read := map[int]int{}
	eachText("01-.\"\\a*:=?A/", 5, func(s string) {
		b, n, e := bare.Read(s)
		if e != api.OK {
			if e != api.ErrForm || n != 0 || b != (api.Bare{}) {
				t.Errorf("Read(%q) = %+v, %d, %d", s, b, n, e)
			}
			return
		}
		read[b.Kind]++
		if n < 1 || n > len(s) || !bare.Right(b) {
			t.Errorf("Read(%q) = %+v, %d", s, b, n)
		}
		checkPrintedIsRead(t, b)
	})
	for kind := api.Integer; kind <= api.Boolean; kind++ {
		if read[kind] == 0 {
			t.Error("never read: kind", kind)
		}
	}
}

// R4 and R5: the same call answers the same again, beside others too.

func TestCallsAtTheSameTime(t *testing.T) {
	var group sync.WaitGroup
	for range 8 {
		group.Go(func() {
			for range 50 {
				for b, s := range validItems() {
					if printed, e := bare.Print(b); printed != s || e != api.OK {
						t.Error("another text beside other calls:", printed, e)
					}
					if again, n, e := bare.Read(s); again != b || n != len(s) || e != api.OK {
						t.Error("another item beside other calls:", again, n, e)
					}
				}
			}
		})
	}
	group.Wait()
}
