package message_test

import (
	"strings"
	"testing"

	"scullery/api"
)

const (
	get  = "GET / HTTP/1.1\r\n"
	post = "POST / HTTP/1.1\r\nhost: x\r\n"
)

// P8.1: requests.

func TestReadRequest(t *testing.T) {
	for _, c := range []struct {
		s    string
		want api.Request
	}{
		{get + "host: x\r\n\r\n", api.Request{Method: "GET", Target: "/", Fields: fields("host", "x")}},
		{get + "Host:\r\n\r\n", api.Request{Method: "GET", Target: "/", Fields: fields("host", "")}},
		{"get http://A.b:80/c?d#e HTTP/1.1\r\nHOST: A.b:80\r\nvia: 1\r\nVia: 2\r\n\r\n", api.Request{Method: "get", Target: "http://A.b:80/c?d#e", Fields: fields("host", "A.b:80", "via", "1", "via", "2")}},
		{"! ! HTTP/1.1\r\na: b\r\nhost: x y\r\n\r\n", api.Request{Method: "!", Target: "!", Fields: fields("a", "b", "host", "x y")}},
		{"OPTIONS * HTTP/1.1\r\nhost: x\r\ncontent-length: 0\r\n\r\n", api.Request{Method: "OPTIONS", Target: "*", Fields: fields("host", "x")}},
		{"HTTP HTTP/1.1 HTTP/1.1\r\nhost: x\r\n\r\n", api.Request{Method: "HTTP", Target: "HTTP/1.1", Fields: fields("host", "x")}},
		{post + "content-length: 4\r\n\r\nbody", api.Request{Method: "POST", Target: "/", Fields: fields("host", "x"), Body: []byte("body")}},
		{post + "Content-Length:\t2 \r\na: b\r\n\r\n\r\n", api.Request{Method: "POST", Target: "/", Fields: fields("host", "x", "a", "b"), Body: []byte("\r\n")}},
		{post + "transfer-encoding: chunked\r\n\r\n0\r\n\r\n", api.Request{Method: "POST", Target: "/", Fields: fields("host", "x")}},
		{post + "a: b\r\nTransfer-Encoding: CHUNKED\r\na: c\r\n\r\n2;x\r\nbo\r\n2\r\ndy\r\n0\r\nc: d\r\n\r\n", api.Request{Method: "POST", Target: "/", Fields: fields("host", "x", "a", "b", "a", "c"), Body: []byte("body")}},
		{"GET / HTTP/1.1\r\nhost: x\r\ncontent-length: 3\r\n\r\n\x00\xff\n", api.Request{Method: "GET", Target: "/", Fields: fields("host", "x"), Body: []byte("\x00\xff\n")}},
	} {
		checkReadRequest(t, c.s, c.want, len(c.s))
		// What is behind the end isn't looked at.
		for _, behind := range []string{"\r", "\n", "\r\n", "0\r\n\r\n", "GET", c.s, "\x00", " ", mixed(most + 1)} {
			checkReadRequest(t, c.s+behind, c.want, len(c.s))
		}
		// Whatever is cut off, it's too short (P8.4).
		for i := range len(c.s) {
			checkNoRequest(t, api.ErrShort, c.s[:i])
		}
	}
}

func TestFirstLinesOfRequests(t *testing.T) {
	for _, line := range []string{
		"", " ", "GET", "GET /", "GET HTTP/1.1", "/ HTTP/1.1", "HTTP/1.1", "GET/HTTP/1.1", "GET /HTTP/1.1", "GET/ HTTP/1.1", "HTTP/1.1 200 OK",
		// With a method that is no token.
		" / HTTP/1.1", "G(T / HTTP/1.1", "GET: / HTTP/1.1", "\"GET\" / HTTP/1.1", "G\tT / HTTP/1.1", "G\x00T / HTTP/1.1", "G\x80T / HTTP/1.1", "G\u00c9T / HTTP/1.1", "G,T / HTTP/1.1", "G/T / HTTP/1.1", "\x7f / HTTP/1.1", "G=T / HTTP/1.1", "{} / HTTP/1.1", "\rGET / HTTP/1.1",
		// With an empty target, and with a space or another byte in it.
		"GET  HTTP/1.1", "GET \t HTTP/1.1", "GET / / HTTP/1.1", "GET /a b HTTP/1.1", "GET /\t HTTP/1.1", "GET \t/ HTTP/1.1", "GET /\x00 HTTP/1.1", "GET /\x1f HTTP/1.1", "GET /\x7f HTTP/1.1", "GET /\x80 HTTP/1.1", "GET /\xff HTTP/1.1", "GET /\u00e9 HTTP/1.1", "GET /\r HTTP/1.1", "GET \x7f HTTP/1.1", "GET \xff/ HTTP/1.1", "GET / HTTP/1.1 HTTP/1.1",
		// With another version.
		"GET / HTTP/1.0", "GET / HTTP/1.2", "GET / HTTP/2", "GET / HTTP/2.0", "GET / HTTP/1.11", "GET / HTTP/11", "GET / HTTP/1", "GET / HTTP/1.", "GET / http/1.1", "GET / Http/1.1", "GET / HTTPS/1.1", "GET / HTTP/01.1", "GET / HTTP/1.1.", "GET / HTTP/1,1", "GET / HTTP1.1", "GET / xHTTP/1.1", "GET / ", "GET / /1.1", "GET / HTTP/1.1x", "GET / HTTP/1.1\x00", "GET / HTTP/1.1\r", "GET / HTTP/1.1;",
		// With more spaces than told, and with other blanks.
		"GET  / HTTP/1.1", "GET /  HTTP/1.1", " GET / HTTP/1.1", "GET / HTTP/1.1 ", "GET / HTTP/1.1\t", "GET\t/ HTTP/1.1", "GET /\tHTTP/1.1", "\tGET / HTTP/1.1", "GET  /  HTTP/1.1", "GET / HTTP/ 1.1", "GET / HTTP /1.1", "GET\u00a0/ HTTP/1.1", "GET / \tHTTP/1.1", "GET \t/ HTTP/1.1",
	} {
		checkNoRequest(t, api.ErrForm, line+"\r\nhost: x\r\n\r\n", line+"\r\n", line+"\r\nhost: x\r\ncontent-length: 1\r\n\r\nbody", line+"\r\n"+get+"host: x\r\n\r\n", line+"x\n")
		checkNoRequest(t, api.ErrShort, line, line+"\r")
	}
	// An empty line ahead isn't skipped.
	checkNoRequest(t, api.ErrForm, "\r\n"+get+"host: x\r\n\r\n", "\n"+get+"host: x\r\n\r\n")
}

func TestEachByteInFirstLinesOfRequests(t *testing.T) {
	const tokenMarks = "!#$%&'*+-.^_`|~"
	for _, c := range everyByte() {
		s := "A" + c + "Z / HTTP/1.1\r\nhost: x\r\n\r\n"
		if c >= "0" && c <= "9" || c >= "A" && c <= "Z" || c >= "a" && c <= "z" || strings.Contains(tokenMarks, c) {
			checkReadRequest(t, s, api.Request{Method: "A" + c + "Z", Target: "/", Fields: fields("host", "x")}, len(s))
			checkReadRequest(t, s[1:], api.Request{Method: c + "Z", Target: "/", Fields: fields("host", "x")}, len(s)-1)
		} else {
			checkNoRequest(t, api.ErrForm, s, s[1:])
		}
		s = "GET A" + c + "Z HTTP/1.1\r\nhost: x\r\n\r\n"
		if c[0] >= 33 && c[0] <= 126 {
			checkReadRequest(t, s, api.Request{Method: "GET", Target: "A" + c + "Z", Fields: fields("host", "x")}, len(s))
			s = "GET " + c + " HTTP/1.1\r\nhost: x\r\n\r\n"
			checkReadRequest(t, s, api.Request{Method: "GET", Target: c, Fields: fields("host", "x")}, len(s))
		} else {
			checkNoRequest(t, api.ErrForm, s, "GET "+c+" HTTP/1.1\r\nhost: x\r\n\r\n", "GET "+c+"Z HTTP/1.1\r\nhost: x\r\n\r\n", "GET A"+c+" HTTP/1.1\r\nhost: x\r\n\r\n")
		}
	}
}

func TestLongFirstLinesOfRequests(t *testing.T) {
	for length := 1990; length <= 2010; length++ {
		long := strings.Repeat("a", length-16)
		for _, q := range []api.Request{{Method: "GET", Target: "///" + long}, {Method: "GET" + long, Target: "///"}, {Method: long + "aa", Target: "GET/"}} {
			line := q.Method + " " + q.Target + " HTTP/1.1"
			if len(line) != length {
				t.Fatal("not a line of that length:", len(line), length)
			}
			q.Fields = fields("host", "x")
			if s := line + "\r\nhost: x\r\n\r\n"; length <= 2000 {
				checkReadRequest(t, s, q, len(s))
				checkReadRequest(t, s+"more", q, len(s))
			} else {
				checkNoRequest(t, api.ErrMany, s, line+"\r\n", line+"\r\nx\n")
			}
			checkNoRequest(t, api.ErrForm, line+"\n", line+"\nhost: x\r\n\r\n", line+"\n\r\n")
		}
	}
}

func TestFirstLinesWithoutAnEnd(t *testing.T) {
	for length := range 2100 {
		want := api.ErrShort
		if length > 2002 {
			want = api.ErrMany
		}
		for _, c := range []string{"a", "\r", " ", "\x00", "\xff"} {
			checkNoRequest(t, want, strings.Repeat(c, length))
			checkNoResponse(t, want, "GET", strings.Repeat(c, length))
			checkNoResponse(t, want, "HEAD", strings.Repeat(c, length))
		}
		if length > 14 {
			checkNoRequest(t, want, "GET /"+strings.Repeat("a", length-14)+" HTTP/1.1", "GET /"+strings.Repeat("a", length-15)+" HTTP/1.1\r")
			checkNoResponse(t, want, "GET", "HTTP/1.1 200 "+strings.Repeat("a", length-13), "HTTP/1.1 200 "+strings.Repeat("a", length-14)+"\r")
		}
	}
	// An end that comes much later is an end.
	for _, length := range []int{2001, 2002, 2003, 5000, 1 << 16, most} {
		long := strings.Repeat("a", length)
		checkNoRequest(t, api.ErrForm, long+"\n", "GET /"+long+" HTTP/1.1\nhost: x\r\n\r\n")
		checkNoResponse(t, api.ErrForm, "GET", long+"\n", "HTTP/1.1 200 "+long+"\n\r\n")
		checkNoRequest(t, api.ErrMany, long+"\r\n", "GET /"+long+" HTTP/1.1\r\nhost: x\r\n\r\n", "GET /"+long+" HTTP/1.1")
		checkNoResponse(t, api.ErrMany, "GET", long+"\r\n", "HTTP/1.1 200 "+long+"\r\n\r\n", "HTTP/1.1 200 "+long)
	}
	for _, end := range []string{"\n", "\r \n", "\r\r \n", "\x00\n", "\n\r", "\n\n", "\n\r\n"} {
		checkNoRequest(t, api.ErrForm, "GET / HTTP/1.1"+end+"host: x\r\n\r\n", "GET / HTTP/1.1"+end, end)
		checkNoResponse(t, api.ErrForm, "GET", "HTTP/1.1 200 OK"+end+"a: b\r\n\r\n", "HTTP/1.1 200 "+end, end)
	}
}

func TestHosts(t *testing.T) {
	for _, l := range []string{
		"", "a: b\r\n", "hosts: x\r\n", "hos: t\r\n", "x-host: x\r\n", "a: host\r\n",
		"host: x\r\nhost: x\r\n", "host: x\r\nHost: y\r\n", "HOST: x\r\na: b\r\nhost:\r\n", "host:\r\nhost:\r\n", "host: x\r\nhost: x\r\nhost: x\r\n",
	} {
		checkNoRequest(t, api.ErrForm, get+l+"\r\n", get+l+"\r\nbody", get+l+"content-length: 4\r\n\r\nbody", get+l+"transfer-encoding: chunked\r\n\r\n0\r\n\r\n")
	}
	for _, name := range []string{"host", "Host", "HOST", "hOsT"} {
		for _, ahead := range []string{"", "a: b\r\n", "a: host\r\nhosts: y\r\n"} {
			s := get + ahead + name + ": a, b\r\nc: d\r\n\r\n"
			if !checkRequest(t, s) {
				t.Errorf("one host: %q", s)
			}
		}
	}
	// Responses may have any number of them.
	for _, l := range []string{"", "host: x\r\n", "host: x\r\nhost: x\r\n"} {
		if !checkResponse(t, "HTTP/1.1 200 \r\n"+l+"\r\n", "GET") {
			t.Errorf("hosts of a response: %q", l)
		}
	}
}

// P8.1: the errors of head.Parse.

func TestFieldsOfMessages(t *testing.T) {
	full := linesOf(numbered(63))
	for l, want := range map[string]api.Errno{
		"":                        api.ErrShort,
		"\r":                      api.ErrShort,
		"a: b\r\n":                api.ErrShort,
		"a":                       api.ErrShort,
		full + "a: b\r\n":         api.ErrShort,
		"a\r\n\r\n":               api.ErrForm,
		"a : b\r\n\r\n":           api.ErrForm,
		" a: b\r\n\r\n":           api.ErrForm,
		": b\r\n\r\n":             api.ErrForm,
		"a: \x00\r\n\r\n":         api.ErrForm,
		"a: b\n\r\n":              api.ErrForm,
		"\n":                      api.ErrForm,
		full + "a\r\n\r\n":        api.ErrForm,
		full + "a:\r\nb:\r\n\r\n": api.ErrMany,
		"a:" + strings.Repeat("b", 1999) + "\r\n\r\n": api.ErrMany,
		strings.Repeat("a", 2003):                     api.ErrMany,
	} {
		checkNoRequest(t, want, get+l)
		checkNoResponse(t, want, "GET", "HTTP/1.1 200 \r\n"+l, "HTTP/1.1 304 \r\n"+l)
		checkNoResponse(t, want, "HEAD", "HTTP/1.1 200 \r\n"+l)
		if !strings.HasPrefix(l, full) {
			checkNoRequest(t, want, get+"host: x\r\n"+l, get+"host: x\r\nhost: x\r\n"+l, get+"host: x\r\ncontent-length: a\r\n"+l)
			checkNoResponse(t, want, "GET", "HTTP/1.1 200 \r\ncontent-length: a\r\n"+l, "HTTP/1.1 304 \r\ncontent-length: a\r\n"+l)
		}
	}
	// As many fields as may be, with those of the length among them.
	for count := 62; count <= 66; count++ {
		s := get + linesOf(hosted(count)) + "\r\n"
		bodied := get + linesOf(hosted(count-1)) + "content-length: 1\r\n\r\nx"
		coded := get + "transfer-encoding: chunked\r\n" + linesOf(hosted(count-1)) + "\r\n1\r\nx\r\n0\r\n\r\n"
		p := "HTTP/1.1 200 \r\n" + linesOf(numbered(count)) + "\r\nx"
		if count > 64 {
			checkNoRequest(t, api.ErrMany, s, bodied, coded)
			checkNoResponse(t, api.ErrMany, "GET", p)
			continue
		}
		checkReadRequest(t, s, api.Request{Method: "GET", Target: "/", Fields: hosted(count)}, len(s))
		for _, text := range []string{bodied, coded} {
			checkReadRequest(t, text, api.Request{Method: "GET", Target: "/", Fields: hosted(count - 1), Body: []byte("x")}, len(text))
		}
		checkReadResponse(t, p, "GET", api.Response{Status: 200, Fields: numbered(count), Body: []byte("x")})
	}
}

// P8.1 and P8.2: the length of a body.

// wrongLengths are lines of fields that determine no length, for reasons of form.
var wrongLengths = []string{
	// Both fields, two of either.
	"content-length: 4\r\ntransfer-encoding: chunked\r\n", "transfer-encoding: chunked\r\ncontent-length: 4\r\n", "Transfer-Encoding: chunked\r\na: b\r\nContent-Length: 0\r\n", "content-length: 100001\r\ntransfer-encoding: chunked\r\n", "content-length: a\r\ntransfer-encoding: chunked\r\n", "content-length: 4\r\ntransfer-encoding: gzip\r\n",
	"content-length: 4\r\ncontent-length: 4\r\n", "content-length: 4\r\nCONTENT-LENGTH: 0\r\n", "content-length: 0\r\na: b\r\ncontent-length: 0\r\n", "content-length: 100001\r\ncontent-length: 100001\r\n", "content-length:\r\ncontent-length: 4\r\n", "content-length: 4\r\ncontent-length: 4\r\ncontent-length: 4\r\n",
	"transfer-encoding: chunked\r\ntransfer-encoding: chunked\r\n", "transfer-encoding: chunked\r\ntransfer-encoding: gzip\r\n", "transfer-encoding: gzip\r\nTransfer-Encoding: chunked\r\n", "transfer-encoding:\r\ntransfer-encoding: chunked\r\n",
	// Another coding.
	"transfer-encoding: gzip\r\n", "transfer-encoding:\r\n", "transfer-encoding: identity\r\n", "transfer-encoding: gzip, chunked\r\n", "transfer-encoding: chunked, chunked\r\n", "transfer-encoding: chunked,\r\n", "transfer-encoding: chunked;q=1\r\n", "transfer-encoding: chunke\r\n", "transfer-encoding: chunkedx\r\n", "transfer-encoding: xchunked\r\n", "transfer-encoding: \"chunked\"\r\n", "transfer-encoding: chun\u212aed\r\n", "transfer-encoding: c hunked\r\n", "transfer-encoding: 4\r\n",
	// What is no number.
	"content-length:\r\n", "content-length: a\r\n", "content-length: -1\r\n", "content-length: -0\r\n", "content-length: +4\r\n", "content-length: 4, 4\r\n", "content-length: 4,\r\n", "content-length: 4 4\r\n", "content-length: 4.0\r\n", "content-length: 0x4\r\n", "content-length: 4a\r\n", "content-length: \u0664\r\n", "content-length: 4e0\r\n", "content-length: \"4\"\r\n", "content-length: 1_0\r\n", "content-length: chunked\r\n", "content-length: 99999999999999999999x\r\n",
}

func TestLengthsThatMayNotBe(t *testing.T) {
	for _, l := range wrongLengths {
		for _, rest := range []string{"", "body", "4\r\nbody\r\n0\r\n\r\n", "0\r\n\r\n", mixed(most + 1)} {
			checkNoRequest(t, api.ErrForm, post+l+"\r\n"+rest, get+l+"host: x\r\n\r\n"+rest)
			checkNoResponse(t, api.ErrForm, "GET", "HTTP/1.1 200 \r\n"+l+"\r\n"+rest, "HTTP/1.1 304 \r\n"+l+"\r\n"+rest, "HTTP/1.1 100 OK\r\na: b\r\n"+l+"\r\n"+rest)
			checkNoResponse(t, api.ErrForm, "HEAD", "HTTP/1.1 200 \r\n"+l+"\r\n"+rest)
		}
	}
	// Other fields with the same values do not matter.
	for _, l := range []string{"content-lengths: a\r\n", "transfer-encodings: gzip\r\n", "x-content-length: a\r\n", "te: gzip\r\ncontent-encoding: gzip\r\n", "content-length-: 1\r\n"} {
		if !checkRequest(t, post+l+"\r\n") || !checkResponse(t, "HTTP/1.1 200 \r\n"+l+"\r\nbody", "GET") {
			t.Errorf("not read: %q", l)
		}
	}
}

func TestLengthsInDigits(t *testing.T) {
	for _, c := range []struct {
		digits string
		length int
	}{
		{"0", 0}, {"00", 0}, {"000000000000000000000000", 0}, {"1", 1}, {"01", 1}, {"9", 9}, {"10", 10}, {"010", 10}, {"08", 8}, {"255", 255}, {"1000", 1000}, {"99999", 99999}, {"100000", most}, {"0100000", most}, {strings.Repeat("0", 1900) + "100000", most}, {strings.Repeat("0", 1900) + "7", 7},
	} {
		body := mixed(c.length)
		s := post + "content-length: " + c.digits + "\r\n\r\n" + body
		want := api.Request{Method: "POST", Target: "/", Fields: fields("host", "x"), Body: []byte(body)}
		checkReadRequest(t, s, want, len(s))
		checkReadRequest(t, s+"more", want, len(s))
		p := "HTTP/1.1 200 OK\r\na: b\r\ncontent-length: " + c.digits + "\r\n\r\n" + body
		checkReadResponse(t, p, "GET", api.Response{Status: 200, Fields: fields("a", "b"), Body: []byte(body)})
		checkNoResponse(t, api.ErrForm, "GET", p+"x", p+"\r\n", p+p)
		if c.length > 0 {
			checkNoRequest(t, api.ErrShort, s[:len(s)-1], s[:len(s)-c.length])
			checkNoResponse(t, api.ErrShort, "GET", p[:len(p)-1], p[:len(p)-c.length])
		}
	}
	for _, digits := range []string{"100001", "0100001", "200000", "1000000", "2147483647", "2147483648", "2147483649", "4294967295", "4294967296", "4294967297", "9223372036854775807", "9223372036854775808", "18446744073709551616", "18446744073709551617", strings.Repeat("9", 1900), "1" + strings.Repeat("0", 1900)} {
		l := "content-length: " + digits + "\r\n\r\n"
		for _, rest := range []string{"", "x", "body", mixed(most), mixed(most + 1), mixed(2 * most)} {
			checkNoRequest(t, api.ErrMany, post+l+rest)
			checkNoResponse(t, api.ErrMany, "GET", "HTTP/1.1 200 OK\r\n"+l+rest)
		}
	}
}

func TestChunkedBodies(t *testing.T) {
	for _, coding := range []string{"chunked", "Chunked", "CHUNKED", "cHUNKED", "chunkeD", " \tchunKed\t "} {
		for _, body := range []string{"", "a", "body", "0\r\n\r\n", mixed(300), mixed(most)} {
			for _, size := range []int{1, 3, 16, most} {
				if len(body) > 5000*size {
					continue
				}
				s := post + "Transfer-Encoding:" + coding + "\r\na: b\r\n\r\n" + chunks(body, size)
				want := api.Request{Method: "POST", Target: "/", Fields: fields("host", "x", "a", "b"), Body: []byte(body)}
				checkReadRequest(t, s, want, len(s))
				checkReadRequest(t, s+"\r\n", want, len(s))
				p := "HTTP/1.1 404 not found\r\ntransfer-encoding:" + coding + "\r\na: b\r\n\r\n" + chunks(body, size)
				checkReadResponse(t, p, "GET", api.Response{Status: 404, Fields: fields("a", "b"), Body: []byte(body)})
				checkNoResponse(t, api.ErrForm, "GET", p+"\n", p+"\r\n", p+"0\r\n\r\n")
			}
		}
	}
	for rest, want := range map[string]api.Errno{
		"":                                  api.ErrShort,
		"1\r\n":                             api.ErrShort,
		"1\r\nx\r\n":                        api.ErrShort,
		"0\r\n":                             api.ErrShort,
		"x":                                 api.ErrShort,
		"x\r\n":                             api.ErrForm,
		"1\r\nxy\r\n0\r\n\r\n":              api.ErrForm,
		"1\nx\r\n":                          api.ErrForm,
		"0\r\na\r\n\r\n":                    api.ErrForm,
		"186a1\r\n":                         api.ErrMany,
		chunks(mixed(most+1), most):         api.ErrMany,
		chunks(mixed(most+1), most+1):       api.ErrMany,
		strings.Repeat("1", 2003):           api.ErrMany,
		"0\r\n" + strings.Repeat("a", 2003): api.ErrMany,
		"0\r\n" + linesOf(numbered(65)):     api.ErrMany,
	} {
		checkNoRequest(t, want, post+"transfer-encoding: chunked\r\n\r\n"+rest)
		checkNoResponse(t, want, "GET", "HTTP/1.1 200 \r\ntransfer-encoding: chunked\r\n\r\n"+rest)
	}
	// The fields of the trailer do not belong to the message, and do not determine its length.
	s := post + "transfer-encoding: chunked\r\n\r\n1\r\nx\r\n0\r\nhost: y\r\ncontent-length: a\r\ntransfer-encoding: gzip\r\nb: c\r\n\r\n"
	checkReadRequest(t, s, api.Request{Method: "POST", Target: "/", Fields: fields("host", "x"), Body: []byte("x")}, len(s))
}

func TestBodiesOfUnspecifiedLength(t *testing.T) {
	for _, rest := range []string{"", "x", "body", "\r\n", "0\r\n\r\n", "4\r\nbody\r\n0\r\n\r\n", "HTTP/1.1 200 \r\n\r\n", mixed(300), mixed(most)} {
		s := get + "host: x\r\n\r\n"
		checkReadRequest(t, s+rest, api.Request{Method: "GET", Target: "/", Fields: fields("host", "x")}, len(s))
		checkReadRequest(t, post+"\r\n"+rest, api.Request{Method: "POST", Target: "/", Fields: fields("host", "x")}, len(post)+2)
		for _, method := range []string{"GET", "POST", "", "head", "HEAD ", "OPTIONS"} {
			checkReadResponse(t, "HTTP/1.1 200 \r\n\r\n"+rest, method, api.Response{Status: 200, Body: []byte(rest)})
			checkReadResponse(t, "HTTP/1.1 599 x\r\na: b\r\n\r\n"+rest, method, api.Response{Status: 599, Fields: fields("a", "b"), Body: []byte(rest)})
		}
	}
	for _, more := range []int{1, 2, most} {
		s := get + "host: x\r\n\r\n"
		checkReadRequest(t, s+mixed(most+more), api.Request{Method: "GET", Target: "/", Fields: fields("host", "x")}, len(s))
		checkNoResponse(t, api.ErrMany, "GET", "HTTP/1.1 200 \r\n\r\n"+mixed(most+more), "HTTP/1.1 200 \r\na: b\r\n\r\n"+mixed(most+more))
	}
}

// TestFieldsThatAreKept has the fields of the length at each place among others.
func TestFieldsThatAreKept(t *testing.T) {
	others := fields("a", "1", "host", "x", "a", "2", "content-type", "t", "te", "chunked", "z", "")
	for i := range len(others) + 1 {
		for line, body := range map[string]string{"Content-Length: 3": "abc", "transfer-Encoding: Chunked": "2\r\nab\r\n1\r\nc\r\n0\r\n\r\n"} {
			l := linesOf(others[:i]) + line + "\r\n" + linesOf(others[i:]) + "\r\n" + body
			checkReadRequest(t, get+l, api.Request{Method: "GET", Target: "/", Fields: others, Body: []byte("abc")}, len(get)+len(l))
			checkReadResponse(t, "HTTP/1.1 201 \r\n"+l, "PUT", api.Response{Status: 201, Fields: others, Body: []byte("abc")})
			checkReadResponse(t, "HTTP/1.1 204 \r\n"+strings.TrimSuffix(l, body), "PUT", api.Response{Status: 204, Fields: others})
		}
	}
}
