package ascii_test

import (
	"slices"
	"strings"
	"sync"
	"testing"

	"scullery/api"
	"scullery/ascii"
)

const tokenBytes = "ABCDEFGHIJKLMNOPQRSTUVWXYZabcdefghijklmnopqrstuvwxyz0123456789!#$%&'*+-.^_`|~"

// texts returns all texts over the alphabet of at most that length, the empty one among them.
func texts(alphabet string, most int) []string {
	all := []string{""}
	last := all
	for range most {
		var longer []string
		for _, s := range last {
			for i := range len(alphabet) {
				longer = append(longer, s+alphabet[i:i+1])
			}
		}
		all = append(all, longer...)
		last = longer
	}
	return all
}

// pairs returns all texts of at most two bytes.
func pairs() []string {
	var every strings.Builder
	for c := range 256 {
		every.WriteByte(byte(c))
	}
	return texts(every.String(), 2)
}

// outside reports for each byte of s whether it is outside of quoted parts, by the words of the document, backslashes counted backwards.
func outside(s string) []bool {
	out := make([]bool, len(s))
	for i := 0; i < len(s); i++ {
		if s[i] != '"' {
			out[i] = true
			continue
		}
		begin := i
		for i++; i < len(s); i++ {
			before := 0
			for i-1-before > begin && s[i-1-before] == '\\' {
				before++
			}
			if s[i] == '"' && before%2 == 0 {
				break
			}
		}
	}
	return out
}

// splitByMarks is Split, made of outside and of the library's Trim.
func splitByMarks(s string) []string {
	var parts []string
	begin := 0
	out := outside(s)
	for i := 0; i <= len(s); i++ {
		if i < len(s) && (s[i] != ',' || !out[i]) {
			continue
		}
		if part := strings.Trim(s[begin:i], " \t"); part != "" {
			parts = append(parts, part)
		}
		begin = i + 1
	}
	return parts
}

// P1.1: tokens.

func TestTokenOfEachPair(t *testing.T) {
	for _, s := range pairs() {
		want := s != ""
		for i := range len(s) {
			want = want && strings.IndexByte(tokenBytes, s[i]) >= 0
		}
		if ascii.Token(s) != want {
			t.Errorf("Token(%q) = %v", s, !want)
		}
	}
}

func TestTokenOfWords(t *testing.T) {
	for s, want := range map[string]bool{
		tokenBytes: true, "GET": true, "x-1.b_c": true, "1": true,
		"": false, "a b": false, " a": false, "a\t": false, "a,b": false, "a=b": false, "\"a\"": false,
		"a/b": false, "a:b": false, "a;b": false, "(a)": false, "{}": false, "a\\": false, "a@b": false, "[": false,
		"abc\x7f": false, "abc\x80": false, "\xff": false, "caf\u00e9": false, "abc\x00": false, "a\r\n": false,
	} {
		if ascii.Token(s) != want {
			t.Errorf("Token(%q) = %v", s, !want)
		}
	}
}

// P1.1: texts.

func TestTextOfEachPair(t *testing.T) {
	for _, s := range pairs() {
		want := strings.Trim(s, " \t") == s
		for i := range len(s) {
			c := s[i]
			want = want && (c == 9 || 32 <= c && c <= 126 || 128 <= c)
		}
		if ascii.Text(s) != want {
			t.Errorf("Text(%q) = %v", s, !want)
		}
	}
}

func TestTextOfWords(t *testing.T) {
	for s, want := range map[string]bool{
		"": true, "a": true, "a b": true, "a \t b": true, "~": true, "!": true, "\x80": true, "\xff": true, "caf\u00e9": true, "a\x80\xffb": true,
		" ": false, "\t": false, " \t ": false, " a": false, "\ta": false, "a ": false, "a\t": false, "\x80 ": false, " \x80": false,
		"\x7f": false, "a\x7fb": false, "a\x00b": false, "a\x08b": false, "a\x0ab": false, "a\x0db": false, "a\x1fb": false,
	} {
		if ascii.Text(s) != want {
			t.Errorf("Text(%q) = %v", s, !want)
		}
	}
}

// P1.1: digits.

func TestDigitsOfNumbers(t *testing.T) {
	for s, want := range map[string]int{
		"0": 0, "9": 9, "10": 10, "007": 7, "000": 0, "1234567890": 1234567890,
		"2147483647": api.Top - 1, "2147483648": api.Top, "2147483649": api.Top, "4294967296": api.Top, "21474836480": api.Top,
		"9223372036854775807": api.Top, "9223372036854775808": api.Top, "18446744073709551615": api.Top, "18446744073709551616": api.Top,
		strings.Repeat("9", 1000):              api.Top,
		"1" + strings.Repeat("0", 1000):        api.Top,
		strings.Repeat("0", 1000) + "12":       12,
		strings.Repeat("0", 50) + "2147483647": api.Top - 1,
	} {
		if n, is := ascii.Digits(s); n != want || !is {
			t.Errorf("Digits(%q) = %d, %v", s, n, is)
		}
	}
}

func TestDigitsOfOthers(t *testing.T) {
	for _, s := range []string{
		"", " ", "-", "+", "-1", "+1", "1.5", ".5", " 1", "1 ", "\t1", "1_000", "0x10", "1e3", "a", "1a", "a1", "1,2", "\"1\"", "1\x00", "1/", "1:", "\xb2", "\u0661",
		strings.Repeat("9", 1000) + "x",
	} {
		if n, is := ascii.Digits(s); n != 0 || is {
			t.Errorf("Digits(%q) = %d, %v", s, n, is)
		}
	}
	for _, s := range pairs() {
		want := s != "" && strings.Trim(s, "0123456789") == ""
		if n, is := ascii.Digits(s); is != want || !is && n != 0 {
			t.Errorf("Digits(%q) = %d, %v", s, n, is)
		}
	}
}

// P1.2: small letters.

func TestLower(t *testing.T) {
	for c := range 256 {
		want := c
		if 'A' <= c && c <= 'Z' {
			want = c + 32
		}
		for _, around := range []string{"", "Z", "\x80", "\u00c4"} {
			s := around + string([]byte{byte(c)}) + around
			small := strings.ReplaceAll(around, "Z", "z")
			if got := ascii.Lower(s); got != small+string([]byte{byte(want)})+small {
				t.Errorf("Lower(%q) = %q", s, got)
			}
		}
	}
	for s, want := range map[string]string{
		"": "", "Max-Age": "max-age", "ABCDEFGHIJKLMNOPQRSTUVWXYZ": "abcdefghijklmnopqrstuvwxyz", "@[`{": "@[`{",
		"\u00c4\u0130\u212a": "\u00c4\u0130\u212a", "A\xc4B\xff": "a\xc4b\xff", "\"A,B\"": "\"a,b\"",
	} {
		if got := ascii.Lower(s); got != want {
			t.Errorf("Lower(%q) = %q", s, got)
		}
	}
}

// P1.2: blanks.

func TestTrim(t *testing.T) {
	for s, want := range map[string]string{
		"": "", " ": "", "\t": "", " \t\t ": "", "a": "a", "  a": "a", "a\t\t": "a", " \t a \t b \t ": "a \t b", "a b": "a b",
		"\na\n": "\na\n", " \r ": "\r", "\x0b": "\x0b", "\x0c": "\x0c", "\x00 ": "\x00", "\u00a0": "\u00a0", "\u2003a\u3000": "\u2003a\u3000", "\x85": "\x85", "\xa0": "\xa0",
		" \x80 ": "\x80", "\xff\t": "\xff", "\t\xc4 \xc4\t": "\xc4 \xc4", " \ufffd ": "\ufffd",
	} {
		if got := ascii.Trim(s); got != want {
			t.Errorf("Trim(%q) = %q", s, got)
		}
	}
	for c := range 256 {
		inner := "x" + string([]byte{byte(c)})
		outer := string([]byte{byte(c)}) + "x"
		blank := c == ' ' || c == '\t'
		if got := ascii.Trim(inner) == "x"; got != blank {
			t.Errorf("Trim(%q) = %q", inner, ascii.Trim(inner))
		}
		if got := ascii.Trim(outer) == "x"; got != blank {
			t.Errorf("Trim(%q) = %q", outer, ascii.Trim(outer))
		}
	}
}

// P1.2: parts.

func TestSplit(t *testing.T) {
	for s, want := range map[string][]string{
		"": nil, " ": nil, " \t": nil, ",": nil, ",,,": nil, " , \t,": nil,
		"a": {"a"}, "a,b": {"a", "b"}, " a b ,\tc\t": {"a b", "c"}, ",a,,b,": {"a", "b"}, "a,a": {"a", "a"}, "a;b=c": {"a;b=c"},
		// The document's example.
		`a, "b,c" ,`: {"a", `"b,c"`},
		// Quoted parts, of which some are within a part, or next to each other.
		`""`: {`""`}, `"",""`: {`""`, `""`}, `x="a,b"y,z`: {`x="a,b"y`, "z"}, `"a""b,c",d`: {`"a""b,c"`, "d"}, `"a"b,c"d,e"`: {`"a"b`, `c"d,e"`}, `" a , b "`: {`" a , b "`},
		// Quoted parts that do not end.
		`"`: {`"`}, `",`: {`",`}, `a,"b,c`: {"a", `"b,c`}, `"a,b" "c,d`: {`"a,b" "c,d`}, `"a, `: {`"a,`}, `" `: {`"`},
		// Backslashes ahead of a quote: an even number lets it end the part.
		`"a\",b`: {`"a\",b`}, `"a\",b",c`: {`"a\",b"`, "c"}, `"a\\",b`: {`"a\\"`, "b"}, `"a\\\",b",c`: {`"a\\\",b"`, "c"}, `"a\\\\",b`: {`"a\\\\"`, "b"},
		`"\",b",c`: {`"\",b"`, "c"}, `"\\",b`: {`"\\"`, "b"}, `"\a",b`: {`"\a"`, "b"}, `"\\a\",b",c`: {`"\\a\",b"`, "c"}, `"\a\\",b`: {`"\a\\"`, "b"}, `"a\`: {`"a\`},
		// Backslashes outside of quoted parts count for nothing.
		`a\,b`: {`a\`, "b"}, `a\"b,c",d`: {`a\"b,c"`, "d"}, `\"a",b`: {`\"a"`, "b"}, `\\"a,b",c`: {`\\"a,b"`, "c"}, `"a"\",b`: {`"a"\",b`}, `"a"\"b",c`: {`"a"\"b"`, "c"},
		// Bytes that are neither blanks nor commas remain.
		"\x80,\xff": {"\x80", "\xff"}, "\x00,\x7f": {"\x00", "\x7f"}, "\n, a": {"\n", "a"}, "\u060c,\uff0c": {"\u060c", "\uff0c"}, "'a,b'": {"'a", "b'"},
	} {
		if got := ascii.Split(s); !slices.Equal(got, want) {
			t.Errorf("Split(%q) = %q", s, got)
		}
	}
}

func TestSplitOfAllShortTexts(t *testing.T) {
	for _, s := range texts("a,\"\\ \t", 6) {
		if got, want := ascii.Split(s), splitByMarks(s); !slices.Equal(got, want) {
			t.Errorf("Split(%q) = %q, not %q", s, got, want)
		}
	}
}

func TestSplitOfLongTexts(t *testing.T) {
	const many = 100000
	if l := ascii.Split(strings.Repeat("a ,", many)); len(l) != many || slices.ContainsFunc(l, func(s string) bool { return s != "a" }) {
		t.Error("many parts", len(l))
	}
	if l := ascii.Split(strings.Repeat(",", many)); len(l) != 0 {
		t.Error("many commas", len(l))
	}
	for s, want := range map[string][]string{
		strings.Repeat(`"`, many):                 {strings.Repeat(`"`, many)},
		strings.Repeat(`\`, many) + ",a":          {strings.Repeat(`\`, many), "a"},
		`"` + strings.Repeat(",", many):           {`"` + strings.Repeat(",", many)},
		`"` + strings.Repeat(`\`, many) + `",a`:   {`"` + strings.Repeat(`\`, many) + `"`, "a"},
		`"` + strings.Repeat(`\`, many+1) + `",a`: {`"` + strings.Repeat(`\`, many+1) + `",a`},
	} {
		if got := ascii.Split(s); !slices.Equal(got, want) {
			t.Errorf("Split(%q...): %d parts", s[:2], len(got))
		}
	}
}

// P1.3: the theorem.

func TestLowerAndTrimTwice(t *testing.T) {
	for _, s := range append(pairs(), texts("Az \t\x80", 5)...) {
		if once := ascii.Lower(s); ascii.Lower(once) != once {
			t.Errorf("Lower twice of %q: %q", s, ascii.Lower(once))
		}
		if once := ascii.Trim(s); ascii.Trim(once) != once {
			t.Errorf("Trim twice of %q: %q", s, ascii.Trim(once))
		}
	}
}

func TestTokensAreTextsAndParts(t *testing.T) {
	tokens := 0
	for _, s := range append(texts(tokenBytes, 2), append(pairs(), tokenBytes)...) {
		if !ascii.Token(s) {
			continue
		}
		tokens++
		if !ascii.Text(s) {
			t.Errorf("no text: %q", s)
		}
		if l := ascii.Split(s); !slices.Equal(l, []string{s}) {
			t.Errorf("Split(%q) = %q", s, l)
		}
	}
	if n := len(tokenBytes); tokens != 2*(n+n*n)+1 {
		t.Error("tokens:", tokens)
	}
}

func TestPartsHaveNoCommasOutside(t *testing.T) {
	for _, s := range texts("a,\"\\ ", 7) {
		for _, part := range ascii.Split(s) {
			if part == "" || ascii.Trim(part) != part {
				t.Errorf("Split(%q): part %q", s, part)
			}
			for i, out := range outside(part) {
				if out && part[i] == ',' {
					t.Errorf("Split(%q): a comma in part %q", s, part)
				}
			}
			if again := ascii.Split(part); !slices.Equal(again, []string{part}) {
				t.Errorf("Split(%q): part %q has parts %q", s, part, again)
			}
		}
	}
}

// R3 and R4: an answer belongs to its caller, and the same call answers the same again.

func TestAnswersAreTheCallers(t *testing.T) {
	const s = `A, "b,c" ,d`
	first := ascii.Split(s)
	for i := range first {
		first[i] = "changed"
	}
	_ = append(first, "more")
	if l := ascii.Split(s); !slices.Equal(l, []string{"A", `"b,c"`, "d"}) {
		t.Errorf("Split(%q) = %q", s, l)
	}
}

// R5: calls from several goroutines.

func TestCallsAtTheSameTime(t *testing.T) {
	var group sync.WaitGroup
	for range 8 {
		group.Go(func() {
			for range 200 {
				n, is := ascii.Digits("60")
				if !ascii.Token("max-age") || !ascii.Text("a b") || n != 60 || !is || ascii.Lower("GET") != "get" || ascii.Trim(" a ") != "a" || len(ascii.Split(`a,"b,c"`)) != 2 {
					t.Error("another answer beside other calls")
				}
			}
		})
	}
	group.Wait()
}
