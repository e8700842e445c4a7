package chunk_test

import (
	"fmt"
	"regexp"
	"slices"
	"strconv"
	"strings"
	"testing"

	"scullery/api"
	"scullery/chunk"
	"scullery/head"
)

// chunkForm is the line of a chunk, without its end, as the document says it. (What is trimmed off a text may stand in it too.)
var chunkForm = regexp.MustCompile(`^([0-9a-fA-F]{1,8})([ \t]*;[^\x00-\x08\x0a-\x1f\x7f]*)?$`)

// lineError is the error of the line with which s begins, and the line without its end, by the words of the document.
func lineError(s string) (string, api.Errno) {
	end := strings.IndexByte(s, 10)
	switch {
	case end < 0 && len(s) > 2000+2:
		return "", api.ErrMany
	case end < 0:
		return "", api.ErrShort
	case end == 0 || s[end-1] != 13:
		return "", api.ErrForm
	case end-1 > 2000:
		return "", api.ErrMany
	case !chunkForm.MatchString(s[:end-1]):
		return "", api.ErrForm
	}
	return s[:end-1], api.OK
}

// decodeByForm is Decode, made of chunkForm and of the words of the document, chunk by chunk.
func decodeByForm(body, s string, before int) (string, int, api.Errno) {
	line, err := lineError(s)
	if err != api.OK {
		return "", 0, err
	}
	size, _ := strconv.ParseInt(chunkForm.FindStringSubmatch(line)[1], 16, 64)
	rest := s[len(line)+2:]
	if size == 0 {
		_, n, err := head.Parse(rest)
		if err != api.OK {
			return "", 0, err
		}
		return body, before + len(line) + 2 + n, api.OK
	}
	switch {
	case int64(len(body))+size > 100000:
		return "", 0, api.ErrMany
	case int64(len(rest)) < size+2:
		return "", 0, api.ErrShort
	case rest[size] != 13 || rest[size+1] != 10:
		return "", 0, api.ErrForm
	}
	return decodeByForm(body+rest[:size], rest[size+2:], before+len(line)+2+int(size)+2)
}

// checkByForm holds Decode against decodeByForm, and reports whether s begins with a chunked body.
func checkByForm(t *testing.T, s string) bool {
	body, length, err := decodeByForm("", s, 0)
	if b, n, e := chunk.Decode(s); b != body || n != length || e != err {
		t.Helper()
		t.Errorf("Decode(%s) = %s, %d, %d; not %s, %d, %d", brief(s), brief(b), n, e, brief(body), length, err)
	}
	return err == api.OK
}

func checkDecode(t *testing.T, s, body string, length int) {
	t.Helper()
	if b, n, e := chunk.Decode(s); b != body || n != length || e != api.OK {
		t.Errorf("Decode(%s) = %s, %d, %d; not %s, %d", brief(s), brief(b), n, e, brief(body), length)
	}
	checkByForm(t, s)
}

func checkRefused(t *testing.T, want api.Errno, texts ...string) {
	t.Helper()
	for _, s := range texts {
		if b, n, e := chunk.Decode(s); b != "" || n != 0 || e != want {
			t.Errorf("Decode(%s) = %s, %d, %d; not %d", brief(s), brief(b), n, e, want)
		}
		checkByForm(t, s)
	}
}

// texts returns all texts of at most that many pieces, the empty one among them.
func texts(pieces []string, most int) []string {
	all := []string{""}
	last := all
	for range most {
		var longer []string
		for _, s := range last {
			for _, piece := range pieces {
				longer = append(longer, s+piece)
			}
		}
		all = append(all, longer...)
		last = longer
	}
	return all
}

func everyByte() []string {
	var every []string
	for c := range 256 {
		every = append(every, string([]byte{byte(c)}))
	}
	return every
}

// chunkOf is the chunk of these bytes.
func chunkOf(data string) string { return fmt.Sprintf("%x\r\n%s\r\n", len(data), data) }

// P7.1: chunked bodies.

func TestDecode(t *testing.T) {
	for s, body := range map[string]string{
		"0\r\n\r\n":                                         "",
		"1\r\na\r\n0\r\n\r\n":                               "a",
		"3\r\nabc\r\n0\r\n\r\n":                             "abc",
		"2\r\nab\r\n1\r\nc\r\n0\r\n\r\n":                    "abc",
		"1\r\na\r\n1\r\na\r\n1\r\nb\r\n0\r\n\r\n":           "aab",
		"a\r\n0123456789\r\n1\r\nx\r\n0\r\n\r\n":            "0123456789x",
		"10\r\n0123456789abcdef\r\n0\r\n\r\n":               "0123456789abcdef",
		"5\r\n0\r\n\r\n\r\n0\r\n\r\n":                       "0\r\n\r\n",
		"2\r\n\r\n\r\n1\r\n\r\r\n1\r\n\n\r\n0\r\n\r\n":      "\r\n\r\n",
		"3\r\n\x00\xff\x7f\r\n0\r\n\r\n":                    "\x00\xff\x7f",
		"1;a\r\nx\r\n2 ; b=\"c;d\"\r\nyz\r\n0;e\r\n\r\n":    "xyz",
		"1\r\na\r\n0\r\nb: c\r\n\r\n":                       "a",
		"0\r\na: b\r\nC:d\r\ne:\r\n\r\n":                    "",
		"00000001;\r\na\r\n00;\r\na: 1\r\na: 2\r\n\r\n":     "a",
		strings.Repeat("1\r\nx\r\n", 100) + "0\r\n\r\n":     strings.Repeat("x", 100),
		"0fF\r\n" + mixed(255) + "\r\n0 \t;\t \x80\r\n\r\n": mixed(255),
	} {
		checkDecode(t, s, body, len(s))
		// What is behind the end isn't looked at.
		for _, behind := range []string{"\r", "\n", "\r\n", "\r\n\r\n", "0\r\n\r\n", "a: b\r\n\r\n", "body", "\x00", " ", ":", s, strings.Repeat("x", 3000), strings.Repeat("x", 3000) + "\n"} {
			checkDecode(t, s+behind, body, len(s))
		}
		// Whatever is cut off, it's too short.
		for i := range len(s) {
			checkRefused(t, api.ErrShort, s[:i])
		}
	}
}

func TestDigits(t *testing.T) {
	for digits, length := range map[string]int{
		"1": 1, "01": 1, "001": 1, "00000001": 1, "9": 9, "0000009": 9, "a": 10, "A": 10, "b": 11, "B": 11, "c": 12, "C": 12, "d": 13, "D": 13, "e": 14, "E": 14, "f": 15, "F": 15,
		"10": 16, "19": 25, "1a": 26, "1F": 31, "20": 32, "99": 153, "aB": 171, "Ab": 171, "ab": 171, "AB": 171, "ff": 255, "fF": 255, "100": 256, "abc": 2748, "DEF": 3567, "dEaD": 57005, "0000dead": 57005, "FFFF": 65535, "12345": 74565, "00012345": 74565, "186a0": most, "186A0": most, "000186a0": most,
		"0": 0, "00": 0, "000": 0, "00000000": 0,
	} {
		body := mixed(length)
		for _, extension := range []string{"", ";", "; x", " ;", "\t;x=1"} {
			data := body + "\r\n"
			if length == 0 {
				data = "\r\n"
			} else {
				data += "0\r\n\r\n"
			}
			s := digits + extension + "\r\n" + data
			checkDecode(t, s, body, len(s))
			checkRefused(t, api.ErrForm, "000000000"[:9-len(digits)]+s, "g"+s, "0x"+s, "+"+s, "-"+s, " "+s, "\t"+s, ";"+s, "_"+s, "1_"+s, "1 "+s)
		}
	}
	checkRefused(t, api.ErrForm, "000000001\r\na\r\n0\r\n\r\n", "000000000\r\n\r\n", "0000000000\r\n\r\n", "100000000\r\n", "fffffffff\r\n", "1234567890\r\n", "10000000000000000\r\n", "ffffffffffffffff\r\n", "10000000000000001\r\na\r\n0\r\n\r\n", strings.Repeat("0", 1999)+"1\r\na\r\n0\r\n\r\n", strings.Repeat("f", 2000)+"\r\n", "000000001;x\r\na\r\n0\r\n\r\n")
	checkRefused(t, api.ErrMany, "186a1\r\n", "186a1\r\nabc\r\n0\r\n\r\n", "7fffffff\r\n", "80000000\r\n", "80000001\r\na\r\n", "ffffffff\r\n", "fffffffe\r\n", "FFFFFFFF;x\r\n", "99999999\r\n", "10000000\r\n", "000186a1\r\n", "00100001\r\n")
}

// TestEachNumber has all lengths of a chunk, each with its digits in either case.
func TestEachNumber(t *testing.T) {
	body := mixed(5000)
	for length := 1; length < 5000; length++ {
		for _, format := range []string{"%x", "%X", "%08x", "%08X"} {
			s := fmt.Sprintf(format, length) + "\r\n" + body[:length] + "\r\n0\r\n\r\n"
			if b, n, e := chunk.Decode(s); b != body[:length] || n != len(s) || e != api.OK {
				t.Errorf("%s: %d bytes, %d, %d", s[:8], len(b), n, e)
			}
		}
	}
}

func TestLinesOfChunks(t *testing.T) {
	for _, behind := range []string{
		"", ";", " ;", "\t;", " \t \t;", ";a", ";a=b", "; a", ";\ta ", ";  ", ";\t", " ; \t ", ";;", ";;;", ";a;b", "; a=\"b c\" ; d", " ;a b", ";=", ";1", ";0\t0", ";,", ";:", ";\"", ";\\", ";~!", ";\x80", ";\xff\xfe", ";caf\u00e9", ";\u00a0", " \t; \t\x80\t \x80 \t",
	} {
		checkDecode(t, "1"+behind+"\r\nx\r\n0\r\n\r\n", "x", 1+len(behind)+10)
		checkDecode(t, "0"+behind+"\r\n\r\n", "", 1+len(behind)+4)
		checkDecode(t, "00000001"+behind+"\r\nx\r\n000"+behind+"\r\na: b\r\n\r\n", "x", 8+2*len(behind)+18)
		checkDecode(t, "1\r\nx\r\n2"+behind+"\r\nyz\r\n0\r\n\r\n", "xyz", 6+len(behind)+12)
	}
	for _, line := range []string{
		// Without digits.
		"", " ", "\t", ";", ";a", " ;", " ;a", " 1", "\t1", " 1;a", ";1", "x", "g", "G", "chunk", "=", ":",
		// With what isn't a digit.
		"1x", "x1", "1g", "g1", "1G", "1@", "1/", "1:", "1`", "0x1", "0X1", "x", "1h", "1_0", "_1", "1_", "+1", "-1", "-0", "+0", "1.0", "1.", ".1", "1,0", "1e-1", "1 0", "1\t0", "1 1;a", "0 0", "1\x00", "\x001", "1\x7f", "1\x80", "\xff", "\u0661", "\uff11", "1\u00a0", "\ufeff1", "1\"", "\"1\"", "#1", "$1", "1h;a",
		// With blanks behind the digits, and without a semicolon.
		"1 ", "1\t", "1  ", "1 \t", "0 ", "0\t", "1 a", "1 =a", "1 a;b", "1\ta;b", "1 \x00;a", "1 :a", "1,a", "1=a", "1\x00;a", "1\x0b;a", "1\x0c;a", "1\r;a", "1 \r;a", "1\u00a0;a", "1\x85;a",
		// With what isn't text behind the semicolon.
		"1;\x00", "1; \x00", "1;a\x00", "1;\x00a", "1;a\x00b", "1;\x01", "1;\x08", "1;\x0b", "1;\x0c", "1;\x1f", "1;\x7f", "1;a\x7fb", "1;a\r", "1;\r", "1;\ra", "1; \r ", "1;a\rb", "0;\x00", "0;\r", "0;a\x7f", "1 ;\x00", "1\r", "1\r\r", "0\r", "\r", "\r1", "1\r1",
		// With too many digits.
		"000000001", "000000000", "123456789", "00000000f;a", "000000001 ;",
	} {
		for _, ahead := range []string{"", "1\r\nx\r\n", "1;y\r\nx\r\n2\r\nyz\r\n", chunkOf(mixed(most))} {
			checkRefused(t, api.ErrForm, ahead+line+"\r\n", ahead+line+"\r\nx", ahead+line+"\r\nx\r\n0\r\n\r\n", ahead+line+"\r\n\r\n", ahead+line+"x\n\r\n")
			checkRefused(t, api.ErrShort, ahead+line, ahead+line+"\r")
		}
	}
}

func TestEndsOfLines(t *testing.T) {
	checkRefused(t, api.ErrForm, "\n", "\n\r\n", "\r\n", "\r\n\r\n", "\r\r\n", "1\n", "1\nx\r\n0\r\n\r\n", "1\n\rx\r\n0\r\n\r\n", "0\n\r\n", "0\n", "0\n\n", "1\r\r\nx", "0\r\r\n\r\n", "1;a\n", "1;a\nx\r\n0\r\n\r\n", "1\x00\n", "1 \n", "\n1\r\nx", "1;\n", "1;\r \nx", "1\r \n",
		"1\r\nx\r\n0\n\r\n", "1\r\nx\r\n1\nx\r\n0\r\n\r\n", "1\r\nx\r\n\r\n0\r\n\r\n", "1\r\nx\r\n\n", strings.Repeat("\n", 3000))
	checkRefused(t, api.ErrShort, "", "\r", "\r\r", "1", "0", "x", "g1", "1 ", "1;", "1;\x00", ";", "000000001", "1\r", "0\r", "1\r\r", "ffffffff", "ffffffff\r", "1\r\nx\r\n", "1\r\nx\r\n1", "1\r\nx\r\n0", "1\r\nx\r\n0\r", "1\r\nx\r\nx", "1\r\nx\r\n\r", "\x00", "1\rx\r0\r\r")
}

// P7.1: the bytes of a chunk, and the two behind them.

func TestBytesThatAreMissing(t *testing.T) {
	for _, ahead := range []string{"", "1\r\nx\r\n", "2;a\r\n\r\n\r\n1\r\nx\r\n"} {
		for _, length := range []int{1, 2, 3, 9, 15, 16, 17, 255, 256, 2000, 2001, 2003, 5000, 65536, most - 3} {
			line := fmt.Sprintf("%x\r\n", length)
			for _, missing := range []int{1, 2, 3, length - 1, length} {
				if missing <= length {
					data := mixed(length - missing)
					checkRefused(t, api.ErrShort, ahead+line+data, ahead+line+strings.Repeat("\n", len(data)), ahead+line+strings.Repeat("\r", len(data)))
				}
			}
			data := ahead + line + mixed(length)
			checkRefused(t, api.ErrShort, data, data+"\r", data+"\n", data+"x", data+"\x00", data+"\r\n", data+"\r\n0", data+"\r\n0\r", data+"\r\n0\r\n", data+"\r\n0\r\n\r", data+"\r\nx")
			checkRefused(t, api.ErrForm, data+"\n\n", data+"\r\r", data+"\n\r", data+"\rx", data+"x\n", data+"xx", data+"\n0\r\n\r\n", data+"\r0\r\n\r\n", data+"0\r\n\r\n", data+"x\r\n0\r\n\r\n", data+"\r\r\n0\r\n\r\n", data+"\x00\x00", data+"\x00\n", data+"\r\x00", data+"\x0d\x0b", data+"\x0c\x0a", data+"\x8d\x8a", data+strings.Repeat("x", 3000))
		}
	}
	// A chunk that has one byte more, or less, than its line tells.
	checkRefused(t, api.ErrForm, "2\r\nabc\r\n0\r\n\r\n", "2\r\na\r\n0\r\n\r\n", "3\r\na\r\n0\r\n\r\n", "1\r\n\r\n0\r\n\r\n")
	checkRefused(t, api.ErrShort, "8\r\na\r\n0\r\n\r\n", "7\r\na\r\n0\r\n\r\n")
}

func TestTheTwoBytesBehind(t *testing.T) {
	every := everyByte()
	for _, first := range every {
		for _, second := range every {
			s := "1\r\nx" + first + second + "0\r\n\r\n"
			if first+second == "\r\n" {
				checkDecode(t, s, "x", len(s))
			} else if b, n, e := chunk.Decode(s); b != "" || n != 0 || e != api.ErrForm {
				t.Errorf("Decode(%q) = %q, %d, %d", s, b, n, e)
			}
		}
	}
}

// P7.1: as many bytes as may be.

// spread returns the chunks of length bytes, each of that size at most, without the last chunk.
func spread(length, size int) string {
	var s strings.Builder
	for ; length > 0; length -= min(length, size) {
		s.WriteString(chunkOf(mixed(min(length, size))))
	}
	return s.String()
}

func TestBodiesOfAsManyBytesAsMayBe(t *testing.T) {
	for _, size := range []int{1, 2, 7, 16, 255, 4096, 33333, 49999, 50000, 65536, most - 1, most} {
		full := spread(most, size)
		if b, n, e := chunk.Decode(full + "0\r\n\r\n"); len(b) != most || n != len(full)+5 || e != api.OK {
			t.Errorf("%d bytes of %d: %d, %d, %d", most, size, len(b), n, e)
		}
		if b, n, e := chunk.Decode(spread(most-1, size) + chunkOf("x") + "0\r\n\r\n"); len(b) != most || n == 0 || e != api.OK {
			t.Errorf("%d bytes and one: %d, %d, %d", most-1, len(b), n, e)
		}
		for _, more := range []string{"1\r\n", "1\r\nx", "1\r\nxyz", "1\r\nx\r\n0\r\n\r\n", "00000001;a\r\nx\r\n0\r\n\r\n", "186a0\r\n", "ffffffff\r\n", "fffe7960\r\n", "fffe7961\r\n", "7ffe7960\r\nx"} {
			if b, n, e := chunk.Decode(full + more); b != "" || n != 0 || e != api.ErrMany {
				t.Errorf("%d bytes of %d, and %q: %d, %d, %d", most, size, more, len(b), n, e)
			}
			if b, n, e := chunk.Decode(full[:len(full)-2] + "x\n" + more); b != "" || n != 0 || e != api.ErrForm {
				t.Errorf("%d bytes of %d, of which the last end is wrong: %d, %d, %d", most, size, len(b), n, e)
			}
		}
		for _, c := range []struct {
			rest string
			e    api.Errno
		}{{"", api.ErrShort}, {"0\r\n", api.ErrShort}, {"000\r\n\r\n", api.OK}, {"x\r\n", api.ErrForm}, {"0\r\nx\r\n\r\n", api.ErrForm}} {
			if _, _, e := chunk.Decode(full + c.rest); e != c.e {
				t.Errorf("%d bytes of %d, and %q: %d", most, size, c.rest, e)
			}
		}
	}
}

func TestLengthsThatAreTooGreat(t *testing.T) {
	for _, c := range []struct{ before, length int }{
		{0, most + 1}, {1, most}, {2, most - 1}, {50000, 50001}, {50001, 50000}, {most - 1, 2}, {0, most + 2}, {0, 1 << 20}, {0, 1 << 24}, {0, 1<<31 - 1}, {0, 1 << 31}, {0, 1<<32 - 1}, {1, 1<<32 - 1}, {most, 1<<32 - most},
	} {
		ahead := spread(c.before, 30000) + fmt.Sprintf("%x\r\n", c.length)
		// It's too great whatever is there of it.
		checkRefused(t, api.ErrMany, ahead, ahead+"x", ahead+"\r\n", ahead+"xx\n", ahead+mixed(most), ahead+mixed(most+10)+"\r\n0\r\n\r\n")
	}
	for _, before := range []int{0, 1, 2, 50000, most - 1} {
		ahead := spread(before, 30000) + fmt.Sprintf("%x\r\n", most-before)
		whole := ahead + mixed(most-before)
		checkRefused(t, api.ErrShort, ahead, whole, whole+"\r", whole+"x")
		checkRefused(t, api.ErrForm, whole+"xx")
		if _, n, e := chunk.Decode(whole + "\r\n0\r\n\r\n"); n != len(whole)+7 || e != api.OK {
			t.Error(before, n, e)
		}
	}
	long := mixed(most + 1)
	checkRefused(t, api.ErrMany, chunkOf(long)+"0\r\n\r\n", chunkOf(long[1:])+chunkOf("x")+"0\r\n\r\n", chunkOf("x")+chunkOf(long[1:])+"0\r\n\r\n")
}

func TestLinesOfAsManyBytesAsMayBe(t *testing.T) {
	for length := 1990; length <= 2010; length++ {
		filler, blanks := strings.Repeat("b", length-2), strings.Repeat(" ", length-2)
		for _, behind := range []string{";" + filler, blanks + ";", ";" + blanks, blanks[1:] + ";\t", ";" + blanks[1:] + "c", strings.Repeat(";", length-1), ";" + strings.Repeat("\xff", length-2), "0000000;" + filler[7:]} {
			if len(behind) != length-1 {
				t.Fatal("not a line of that length:", len(behind)+1, length)
			}
			for _, ahead := range []string{"", "1\r\nx\r\n", "2;y\r\nxx\r\n"} {
				// One or 10000000 in digits, which would be too many bytes.
				line, last := ahead+"1"+behind, ahead+"0"+behind
				checkRefused(t, api.ErrForm, line+"\n", line+"x\nx\r\n0\r\n\r\n", last+"\n\r\n")
				switch {
				case length > 2000 || behind[0] == '0':
					checkRefused(t, api.ErrMany, line+"\r\n", line+"\r\nx", line+"\r\nx\r\n0\r\n\r\n")
				default:
					body := strings.Repeat("x", strings.Count(ahead, "x")+1)
					checkDecode(t, line+"\r\nx\r\n0\r\n\r\n", body, len(line)+10)
					checkRefused(t, api.ErrShort, line+"\r\n", line+"\r\nx", line, line+"\r")
				}
				if length > 2000 {
					checkRefused(t, api.ErrMany, last+"\r\n", last+"\r\n\r\n", last+"\r\nx\r\n")
				} else {
					checkDecode(t, last+"\r\n\r\n", strings.Repeat("x", strings.Count(ahead, "x")), len(last)+4)
				}
			}
		}
		for _, line := range []string{strings.Repeat("1", length), filler + ";b", "1 " + filler, "1;\x00" + filler[1:], " 1;" + filler[1:]} {
			want := api.ErrForm
			if length > 2000 {
				want = api.ErrMany
			}
			checkRefused(t, want, line+"\r\n", line+"\r\nx\r\n0\r\n\r\n", chunkOf("x")+line+"\r\n")
			checkRefused(t, api.ErrForm, line+"\n", chunkOf("x")+line+"\n")
		}
	}
}

func TestLinesWithoutAnEnd(t *testing.T) {
	for length := range 4100 {
		for _, ahead := range []string{"", "1\r\nx\r\n"} {
			for _, c := range []string{"1", "\r", ";", " ", "\x00", "\xff"} {
				want := api.ErrShort
				if length > 2002 {
					want = api.ErrMany
				}
				if b, n, e := chunk.Decode(ahead + strings.Repeat(c, length)); b != "" || n != 0 || e != want {
					t.Errorf("%d times %q: %d", length, c, e)
				}
			}
		}
	}
	for _, line := range []string{"1", "0", "1;a", "x", ""} {
		for length := 1999; length <= 2005; length++ {
			want := api.ErrShort
			if length > 2002 {
				want = api.ErrMany
			}
			s := line + strings.Repeat("\r", length-len(line))
			checkRefused(t, want, s, chunkOf("x")+s, chunkOf(mixed(most))+s)
		}
	}
	// An end that comes much later is an end.
	for _, length := range []int{2001, 2002, 2003, 5000, 1 << 16, most} {
		long := "1;" + strings.Repeat("a", length)
		checkRefused(t, api.ErrForm, long+"\n", long+"\nx\r\n0\r\n\r\n")
		checkRefused(t, api.ErrMany, long+"\r\n", long+"\r\nx\r\n0\r\n\r\n", long+"\r", long)
	}
}

// P7.1: the last chunk, and the trailer fields.

func TestTrailerFields(t *testing.T) {
	full := strings.Repeat("a: b\r\n", 64)
	for _, last := range []string{"0\r\n", "00\r\n", "00000000\r\n", "0;a\r\n", "000 ; b=c\r\n"} {
		for _, ahead := range []string{"", "1\r\nx\r\n", "1\r\nx\r\n2\r\nyz\r\n"} {
			body := []string{"", "x", "xyz"}[strings.Count(ahead, "\r\n")/2]
			for _, trailer := range []string{"", "a: b\r\n", "A:\r\n", "a:b:c \r\n", "a: b\r\na: b\r\nc: d\r\n", "x-1: \x80\xff\r\n", full, "a:" + strings.Repeat("b", 1998) + "\r\n", "0: \r\n", "1: x\r\n0:\r\n"} {
				s := ahead + last + trailer + "\r\n"
				checkDecode(t, s, body, len(s))
				checkDecode(t, s+"more\n", body, len(s))
				checkRefused(t, api.ErrShort, s[:len(s)-1], s[:len(s)-2])
			}
			for _, trailer := range []string{"a\r\n", "a b\r\n", ": b\r\n", "a : b\r\n", " a: b\r\n", "a: b\r\n c\r\n", "a: \x00\r\n", "a: b\x7f\r\n", "a: b\n", "\n", "\r\r\n", "a: b\r\n\n", "a: b\r\nc\r\n", "0\r\n", "1\r\nx\r\n", "x\r\n0\r\n", full[6:] + "a\r\n", full + "\n"} {
				checkRefused(t, api.ErrForm, ahead+last+trailer, ahead+last+trailer+"\r\n")
			}
			for _, trailer := range []string{full + "a: b\r\n", full + "x\r\n", "a:" + strings.Repeat("b", 1999) + "\r\n", strings.Repeat("x", 2003), "a: b\r\n" + strings.Repeat("x", 2003)} {
				checkRefused(t, api.ErrMany, ahead+last+trailer, ahead+last+trailer+"\r\n"[:min(2, 2*strings.Count(trailer, "\n"))])
			}
			checkRefused(t, api.ErrShort, ahead+last, ahead+last+"\r", ahead+last+"a", ahead+last+"a: b", ahead+last+"a: b\r", ahead+last+"a: b\r\n", ahead+last+"a: b\r\n\r", ahead+last+": b", ahead+last+full, ahead+last+strings.Repeat("x", 2002))
		}
	}
}

// P7.1: the first error is told.

func TestTheFirstErrorIsTold(t *testing.T) {
	long, much := "1;"+strings.Repeat("a", 1999), strings.Repeat("1", 2003)
	for s, want := range map[string]api.Errno{
		// Of one chunk.
		long + "\n":                        api.ErrForm,
		much + "\n":                        api.ErrForm,
		long + "\r\n":                      api.ErrMany,
		much + "\r\n":                      api.ErrMany,
		"x" + long + "\r\n":                api.ErrMany,
		"x" + long + "\n":                  api.ErrForm,
		long:                               api.ErrShort,
		much:                               api.ErrMany,
		"x":                                api.ErrShort,
		"ffffffff":                         api.ErrShort,
		"ffffffff\n":                       api.ErrForm,
		"ffffffff;\x00\r\n":                api.ErrForm,
		"ffffffff \r\n":                    api.ErrForm,
		"ffffffff;" + long + "\r\n":        api.ErrMany,
		"186a1\r\nx":                       api.ErrMany,
		"186a1\r\n" + mixed(most+1) + "xx": api.ErrMany,
		"2\r\nx":                           api.ErrShort,
		"2\r\nx\n\n":                       api.ErrShort,
		"2;\x00\r\nx":                      api.ErrForm,
		"2 \r\nx":                          api.ErrForm,
		"2\nx":                             api.ErrForm,
		"1\nxyz":                           api.ErrForm,
		"0\n":                              api.ErrForm,
		"0 \r\n":                           api.ErrForm,
		"0;\x00\r\n" + much:                api.ErrForm,
		"0" + long + "\r\n" + "x\r\n":      api.ErrMany,
		"0\r\nx\r\n" + much:                api.ErrForm,
		"0\r\n" + much:                     api.ErrMany,
		"0\r\n" + much + "\n":              api.ErrForm,
		"0\r\nx":                           api.ErrShort,
		// Of two chunks.
		"1\r\nxyz" + much:                      api.ErrForm,
		"1\r\nxyzx\r\n":                        api.ErrForm,
		"1\r\nxyz186a1\r\n":                    api.ErrForm,
		"x\r\n186a1\r\n":                       api.ErrForm,
		"x\r\n" + much:                         api.ErrForm,
		"x\r\n1\r\n":                           api.ErrForm,
		"1\nx\r\n186a1\r\n":                    api.ErrForm,
		long + "\r\nx\r\nx\r\n":                api.ErrMany,
		long + "\r\nxyz":                       api.ErrMany,
		"186a1\r\nx\r\nx\r\n":                  api.ErrMany,
		"186a1\r\nx\n2 \r\n":                   api.ErrMany,
		"1\r\nx\r\nx\r\n186a1\r\n":             api.ErrForm,
		"1\r\nx\r\n186a0\r\nx\r\n":             api.ErrMany,
		"1\r\nx\r\n186a0\nx\r\n":               api.ErrForm,
		"1\r\nx\r\n1869f\r\nx\r\n":             api.ErrShort,
		"1\r\nx\r\n" + much:                    api.ErrMany,
		"1\r\nx\r\n1\r\nxyz" + much:            api.ErrForm,
		"1\r\nx\r\n" + long + "\r\n":           api.ErrMany,
		"6\r\nx\r\nx\r\n" + "x\r\n":            api.ErrForm,
		"9\r\nx\r\nx\r\n":                      api.ErrShort,
		"1\r\nx\r\n0\r\nx\r\n1\n":              api.ErrForm,
		"1\r\nxyz0\r\n":                        api.ErrForm,
		chunkOf(mixed(most)) + "1\n":           api.ErrForm,
		chunkOf(mixed(most)) + "1 \r\n":        api.ErrForm,
		chunkOf(mixed(most)) + "1\r\n":         api.ErrMany,
		chunkOf(mixed(most)) + "1":             api.ErrShort,
		chunkOf(mixed(most)) + "0\r\n":         api.ErrShort,
		chunkOf(mixed(most)) + "0\r\n1\r\n":    api.ErrForm,
		chunkOf(mixed(most+1)) + "x\r\n":       api.ErrMany,
		"1\r\nx\r\n" + "0\r\n1\r\nx\r\n0\r\n":  api.ErrForm,
		"1\r\nx\r\n" + "\r\n" + "ffffffff\r\n": api.ErrForm,
	} {
		checkRefused(t, want, s)
	}
}

// P7.1: all short texts, each byte, and each change of one place.

func TestAllShortTexts(t *testing.T) {
	decoded := 0
	for _, c := range []struct {
		pieces []string
		most   int
		ends   []string
	}{
		{[]string{"0", "1", "a", ";", " ", "\r", "\n", "\r\n"}, 6, []string{"", "\r\n0\r\n\r\n"}},
		{[]string{"0\r\n", "1\r\n", "2;\r\n", "x", "\r\n", ":"}, 7, []string{"", "0\r\n\r\n"}},
		{[]string{"0", "A", "\t", ";", "\x00", "\xff", "g"}, 6, []string{"\r\n\r\n", "\r\n0123456789\r\n0\r\n\r\n"}},
	} {
		for _, s := range texts(c.pieces, c.most) {
			for _, end := range c.ends {
				if checkByForm(t, s+end) {
					decoded++
				}
			}
		}
	}
	if decoded < 10000 {
		t.Error("too few of them are chunked bodies:", decoded)
	}
}

func TestEachByte(t *testing.T) {
	const rest = "\r\n0123456789abcdef\r\n0\r\n\r\n"
	for _, c := range everyByte() {
		if size, err := strconv.ParseUint(c, 16, 8); err == nil && size > 0 {
			s := c + "\r\n" + rest[2:2+size] + "\r\n0\r\n\r\n"
			checkDecode(t, s, rest[2:2+size], len(s))
		} else if c != "0" && c != "\n" {
			checkRefused(t, api.ErrForm, c+rest, "1"+c+"0"+rest, c+"1\r\nx\r\n0\r\n\r\n")
		}
		line := "10;a" + c + "b"
		switch {
		case c == "\n":
			checkRefused(t, api.ErrForm, line+rest, "10;"+c+rest, c+rest, "1"+c+rest)
		case c == "\t" || c >= " " && c != "\x7f":
			checkDecode(t, line+rest, rest[2:18], len(line+rest))
			checkDecode(t, "10;"+c+rest, rest[2:18], 4+len(rest))
			checkDecode(t, "10 ; "+c+" "+rest, rest[2:18], 7+len(rest))
		default:
			checkRefused(t, api.ErrForm, line+rest, "10;"+c+rest, "10 ; "+c+" "+rest)
		}
	}
}

func TestEachPairOfBytes(t *testing.T) {
	for _, s := range texts(everyByte(), 2) {
		for _, text := range []string{s + "\r\n\r\n", "1" + s + "\r\nx\r\n0\r\n\r\n", "1 " + s + "a\r\nx\r\n0\r\n\r\n", "1;" + s + "\r\nx\r\n0\r\n\r\n", "0" + s + "\r\n", "0\r\n" + s, "1\r\nx\r\n" + s} {
			checkByForm(t, text)
		}
	}
}

func TestChunksWithOneChange(t *testing.T) {
	const sample = "3\r\nabc\r\n0A \t; b=\"c\" \r\n0\r\n\r\n1: xy\r\n00;\r\na: b\r\nC:\r\n\r\nbody"
	checkDecode(t, sample, "abc0\r\n\r\n1: xy", len(sample)-4)
	decoded, refused := 0, 0
	check := func(s string) {
		if checkByForm(t, s) {
			decoded++
		} else {
			refused++
		}
	}
	for i := range len(sample) {
		for _, c := range everyByte() {
			check(sample[:i] + c + sample[i+1:])
			check(sample[:i] + c + sample[i:])
		}
		for j := i + 1; j <= len(sample); j++ {
			check(sample[:i] + sample[j:])
			check(sample[:j] + sample[i:])
		}
	}
	if decoded < 1000 || refused < 1000 {
		t.Error("one side only:", decoded, refused)
	}
}

// TestManyChunks takes minutes where what is left is copied for each chunk.
func TestManyChunks(t *testing.T) {
	s := strings.Repeat("1;"+strings.Repeat("a", 100)+"\r\nx\r\n", most)
	for _, last := range []string{"0\r\n\r\n", "00\r\na: b\r\n\r\n"} {
		if b, n, e := chunk.Decode(s + last); b != strings.Repeat("x", most) || n != len(s+last) || e != api.OK {
			t.Error(len(b), n, e)
		}
	}
	if b, n, e := chunk.Decode(s + "1\r\nx\r\n"); b != "" || n != 0 || e != api.ErrMany {
		t.Error(len(b), n, e)
	}
}

// TestBytesAreTakenAsTheyAre has bytes of all values, in chunks of each size.
func TestBytesAreTakenAsTheyAre(t *testing.T) {
	every := strings.Join(everyByte(), "")
	for size := 1; size <= len(every); size++ {
		var s strings.Builder
		for piece := range slices.Chunk([]byte(every), size) {
			s.WriteString(chunkOf(string(piece)))
		}
		checkDecode(t, s.String()+"0\r\n\r\n"+every, every, s.Len()+5)
	}
}
