package message_test

import (
	"fmt"
	"math"
	"slices"
	"strconv"
	"strings"
	"testing"

	"scullery/api"
	"scullery/head"
	"scullery/message"
)

// requestText is the text of a request by the words of the document, for one that may be printed.
func requestText(q api.Request) string {
	s := q.Method + " " + q.Target + " HTTP/1.1\r\n" + linesOf(q.Fields)
	if len(q.Body) > 0 {
		s += "content-length: " + strconv.Itoa(len(q.Body)) + "\r\n"
	}
	return s + "\r\n" + string(q.Body)
}

// responseText is the text of a response by the words of the document, for one that may be printed.
func responseText(p api.Response, method string) string {
	s := fmt.Sprintf("HTTP/1.1 %d \r\n", p.Status) + linesOf(p.Fields)
	if !bareByWords(p.Status, method) {
		s += "content-length: " + strconv.Itoa(len(p.Body)) + "\r\n"
	}
	return s + "\r\n" + string(p.Body)
}

func checkPrintRequest(t *testing.T, q api.Request) {
	t.Helper()
	s, e := message.PrintRequest(q)
	if s != requestText(q) || e != api.OK {
		t.Errorf("PrintRequest(%s) = %s, %d; not %s", brief(q), brief(s), e, brief(requestText(q)))
	}
	// What was printed is read as the same (P8.4).
	checkReadRequest(t, s, q, len(s))
	checkReadRequest(t, s+"more", q, len(s))
}

func checkPrintResponse(t *testing.T, p api.Response, method string) {
	t.Helper()
	s, e := message.PrintResponse(p, method)
	if s != responseText(p, method) || e != api.OK {
		t.Errorf("PrintResponse(%s, %q) = %s, %d; not %s", brief(p), method, brief(s), e, brief(responseText(p, method)))
	}
	checkReadResponse(t, s, method, p)
	// Its end is always told.
	checkNoResponse(t, api.ErrForm, method, s+"x")
}

func checkUnprintableRequest(t *testing.T, list ...api.Request) {
	t.Helper()
	for _, q := range list {
		if s, e := message.PrintRequest(q); s != "" || e != api.ErrForm {
			t.Errorf("PrintRequest(%s) = %s, %d; not ErrForm", brief(q), brief(s), e)
		}
	}
}

func checkUnprintableResponse(t *testing.T, method string, list ...api.Response) {
	t.Helper()
	for _, p := range list {
		if s, e := message.PrintResponse(p, method); s != "" || e != api.ErrForm {
			t.Errorf("PrintResponse(%s, %q) = %s, %d; not ErrForm", brief(p), method, brief(s), e)
		}
	}
}

// wrongFields are fields that are not valid, or determine a length.
var wrongFields = [][]api.Field{
	fields("", "b"), fields("A", "b"), fields("Host", "b"), fields("a b", "c"), fields("a:", "b"), fields("a", " b"), fields("a", "b\t"), fields("a", "b\r\nc: d"), fields("a", "\n"), fields("a", "\x00"), fields("a", "\x7f"), fields("\u00e9", "b"), fields("a", "b", "", ""),
	fields("a", strings.Repeat("b", 1998)), fields(strings.Repeat("a", 1999), ""),
	fields("content-length", "0"), fields("content-length", "4"), fields("content-length", ""), fields("content-length", "a"), fields("transfer-encoding", "chunked"), fields("transfer-encoding", "gzip"), fields("transfer-encoding", ""), fields("a", "b", "content-length", "4"), fields("transfer-encoding", "chunked", "a", "b"), fields("content-length", "4", "content-length", "4"), fields("Content-Length", "4"), fields("Transfer-Encoding", "chunked"),
	numbered(65), numbered(66), numbered(1000),
}

// P8.3: the text of requests.

func TestPrintRequest(t *testing.T) {
	for want, q := range map[string]api.Request{
		"GET / HTTP/1.1\r\nhost: x\r\n\r\n":                                                 {Method: "GET", Target: "/", Fields: fields("host", "x")},
		"! ! HTTP/1.1\r\nhost: \r\n\r\n":                                                    {Method: "!", Target: "!", Fields: fields("host", ""), Body: []byte{}},
		"POST /a?b HTTP/1.1\r\nb: c\r\nhost: x\r\na: b\r\ncontent-length: 1\r\n\r\nx":       {Method: "POST", Target: "/a?b", Fields: fields("b", "c", "host", "x", "a", "b"), Body: []byte("x")},
		"get ~ HTTP/1.1\r\nhost: x\r\ncontent-length: 12\r\n\r\n\r\n\r\n\x00\xff\u00e90123": {Method: "get", Target: "~", Fields: fields("host", "x"), Body: []byte("\r\n\r\n\x00\xff\u00e90123")},
	} {
		if s, e := message.PrintRequest(q); s != want || e != api.OK {
			t.Errorf("PrintRequest(%s) = %s, %d; not %s", brief(q), brief(s), e, brief(want))
		}
		checkPrintRequest(t, q)
	}
	for _, length := range []int{0, 1, 2, 9, 10, 99, 100, 999, 1000, 9999, 10000, most - 1, most} {
		checkPrintRequest(t, api.Request{Method: "PUT", Target: "*", Fields: fields("host", "x"), Body: []byte(mixed(length))})
	}
	for _, more := range []int{1, 2, most, 10 * most} {
		checkUnprintableRequest(t, api.Request{Method: "PUT", Target: "*", Fields: fields("host", "x"), Body: []byte(mixed(most + more))})
	}
}

func TestRequestsThatMayNotBePrinted(t *testing.T) {
	x := fields("host", "x")
	for _, body := range [][]byte{nil, []byte("body")} {
		checkUnprintableRequest(t, api.Request{Body: body})
		for _, method := range []string{"", " ", "GET ", " GET", "G T", "G(T", "GET:", "G\x00T", "G\u00c9T", "\xff", "GET\r\n", "GET\n", "GET /"} {
			checkUnprintableRequest(t, api.Request{Method: method, Target: "/", Fields: x, Body: body})
		}
		for _, target := range []string{"", " ", "/ ", " /", "/a b", "/\t", "/\x00", "/\x1f", "/\x7f", "/\x80", "/\u00e9", "\r\n", "/\r\nhost: y", "/ HTTP/1.1"} {
			checkUnprintableRequest(t, api.Request{Method: "GET", Target: target, Fields: x, Body: body})
		}
		for _, l := range wrongFields {
			checkUnprintableRequest(t, api.Request{Method: "GET", Target: "/", Fields: slices.Concat(x, l), Body: body}, api.Request{Method: "GET", Target: "/", Fields: slices.Concat(l, x), Body: body}, api.Request{Method: "GET", Target: "/", Fields: l, Body: body})
		}
		for _, l := range [][]api.Field{nil, fields("a", "b"), fields("hosts", "x"), fields("Host", "x"), fields("host", "x", "host", "x"), fields("host", "x", "a", "b", "host", "y"), fields("host", "x", "host", "x", "host", "x")} {
			checkUnprintableRequest(t, api.Request{Method: "GET", Target: "/", Fields: l, Body: body})
		}
	}
}

func TestEachByteOfPrintedRequests(t *testing.T) {
	for _, c := range everyByte() {
		for _, s := range []string{c, "a" + c, c + "a", "a" + c + "b"} {
			for _, q := range []api.Request{{Method: s, Target: "/", Fields: fields("host", "x")}, {Method: "GET", Target: s, Fields: fields("host", "x")}, {Method: "GET", Target: "/", Fields: fields("host", "x", "a", s)}, {Method: "GET", Target: "/", Fields: fields("host", "x", s, "b")}, {Method: "GET", Target: "/", Fields: fields("host", s), Body: []byte(s)}} {
				if requestForm.MatchString(q.Method+" "+q.Target+" HTTP/1.1") && head.Right(q.Fields) {
					checkPrintRequest(t, q)
				} else {
					checkUnprintableRequest(t, q)
				}
			}
		}
	}
}

func TestNumbersOfFieldsOfPrintedRequests(t *testing.T) {
	for count := 1; count <= 70; count++ {
		bare := api.Request{Method: "GET", Target: "/", Fields: hosted(count)}
		bodied := api.Request{Method: "GET", Target: "/", Fields: hosted(count), Body: []byte("x")}
		switch {
		case count < 64:
			checkPrintRequest(t, bare)
			checkPrintRequest(t, bodied)
		case count == 64:
			checkPrintRequest(t, bare)
			checkUnprintableRequest(t, bodied)
		default:
			checkUnprintableRequest(t, bare, bodied)
		}
	}
}

func TestLongFirstLinesOfPrintedRequests(t *testing.T) {
	for length := 1990; length <= 2010; length++ {
		long := strings.Repeat("a", length-16)
		for _, q := range []api.Request{{Method: "GET", Target: "///" + long}, {Method: "GET" + long, Target: "///"}, {Method: long + "aa", Target: "GET/"}} {
			q.Fields, q.Body = fields("host", "x"), []byte("x")
			if length <= 2000 {
				checkPrintRequest(t, q)
			} else {
				checkUnprintableRequest(t, q)
			}
		}
	}
	checkUnprintableRequest(t, api.Request{Method: "GET", Target: "/" + strings.Repeat("a", 10*most), Fields: fields("host", "x")})
}

// P8.3: the text of responses.

func TestPrintResponse(t *testing.T) {
	for _, c := range []struct {
		want, method string
		p            api.Response
	}{
		{"HTTP/1.1 200 \r\ncontent-length: 0\r\n\r\n", "GET", api.Response{Status: 200}},
		{"HTTP/1.1 599 \r\na: b\r\ncontent-length: 4\r\n\r\nbody", "GET", api.Response{Status: 599, Fields: fields("a", "b"), Body: []byte("body")}},
		{"HTTP/1.1 404 \r\nb: c\r\nhost: x\r\nhost: y\r\na: \r\ncontent-length: 2\r\n\r\n\r\n", "", api.Response{Status: 404, Fields: fields("b", "c", "host", "x", "host", "y", "a", ""), Body: []byte("\r\n")}},
		{"HTTP/1.1 304 \r\na: b\r\n\r\n", "GET", api.Response{Status: 304, Fields: fields("a", "b")}},
		{"HTTP/1.1 204 \r\n\r\n", "GET", api.Response{Status: 204, Body: []byte{}}},
		{"HTTP/1.1 100 \r\n\r\n", "POST", api.Response{Status: 100}},
		{"HTTP/1.1 200 \r\n\r\n", "HEAD", api.Response{Status: 200}},
		{"HTTP/1.1 200 \r\ncontent-length: 0\r\n\r\n", "head", api.Response{Status: 200}},
	} {
		if s, e := message.PrintResponse(c.p, c.method); s != c.want || e != api.OK {
			t.Errorf("PrintResponse(%s, %q) = %s, %d; not %s", brief(c.p), c.method, brief(s), e, brief(c.want))
		}
		checkPrintResponse(t, c.p, c.method)
	}
	for _, length := range []int{0, 1, 2, 9, 10, 99, 100, 999, 1000, 9999, 10000, most - 1, most} {
		checkPrintResponse(t, api.Response{Status: 200, Fields: fields("a", "b"), Body: []byte(mixed(length))}, "GET")
	}
	for _, more := range []int{1, 2, most, 10 * most} {
		body := []byte(mixed(most + more))
		checkUnprintableResponse(t, "GET", api.Response{Status: 200, Body: body}, api.Response{Status: 204, Body: body})
		checkUnprintableResponse(t, "HEAD", api.Response{Status: 200, Body: body})
	}
}

func TestStatusesOfPrintedResponses(t *testing.T) {
	for status := -300; status <= 1100; status++ {
		for _, method := range []string{"GET", "HEAD", ""} {
			none, some := api.Response{Status: status, Fields: fields("a", "b")}, api.Response{Status: status, Body: []byte("x")}
			switch {
			case status < 100 || status > 599:
				checkUnprintableResponse(t, method, none, some)
			case bareByWords(status, method):
				checkPrintResponse(t, none, method)
				checkUnprintableResponse(t, method, some)
			default:
				checkPrintResponse(t, none, method)
				checkPrintResponse(t, some, method)
			}
		}
	}
	for _, status := range []int{math.MinInt, math.MinInt32, math.MaxInt32, math.MaxInt, 1<<32 + 200, 1<<16 + 200, 2000} {
		checkUnprintableResponse(t, "GET", api.Response{Status: status})
		checkUnprintableResponse(t, "HEAD", api.Response{Status: status})
	}
}

func TestResponsesThatMayNotBePrinted(t *testing.T) {
	checkUnprintableResponse(t, "GET", api.Response{})
	checkUnprintableResponse(t, "HEAD", api.Response{})
	for _, l := range wrongFields {
		for _, fieldsOf := range [][]api.Field{l, slices.Concat(fields("x", "y"), l), slices.Concat(l, fields("x", "y"))} {
			checkUnprintableResponse(t, "GET", api.Response{Status: 200, Fields: fieldsOf}, api.Response{Status: 200, Fields: fieldsOf, Body: []byte("body")}, api.Response{Status: 304, Fields: fieldsOf})
			checkUnprintableResponse(t, "HEAD", api.Response{Status: 200, Fields: fieldsOf})
		}
	}
}

func TestNumbersOfFieldsOfPrintedResponses(t *testing.T) {
	for count := range 70 {
		for _, p := range []api.Response{{Status: 200}, {Status: 200, Body: []byte("x")}, {Status: 304}} {
			p.Fields = numbered(count)
			if count < 64 {
				checkPrintResponse(t, p, "GET")
			} else {
				checkUnprintableResponse(t, "GET", p)
			}
		}
		p := api.Response{Status: 200, Fields: numbered(count)}
		if count < 64 {
			checkPrintResponse(t, p, "HEAD")
		} else {
			checkUnprintableResponse(t, "HEAD", p)
		}
	}
}

// R3: arguments are neither changed nor shared with results.

func TestArgumentsStayAsTheyAre(t *testing.T) {
	roomy := append(make([]api.Field, 0, 10), fields("host", "x")...)
	behind := roomy[:10]
	body := []byte("body")
	q, p := api.Request{Method: "GET", Target: "/", Fields: roomy, Body: body}, api.Response{Status: 200, Fields: roomy, Body: body}
	checkPrintRequest(t, q)
	checkPrintResponse(t, p, "GET")
	if behind[1] != (api.Field{}) || roomy[0] != fields("host", "x")[0] || string(body) != "body" {
		t.Errorf("changed: %s, %q", brief(behind), body)
	}
	text, _ := message.PrintRequest(q)
	body[0] = 'x'
	if !strings.HasSuffix(text, "body") {
		t.Error("the text shares memory with the body")
	}
}

func TestResultsBelongToTheCaller(t *testing.T) {
	s := post + "a: b\r\ncontent-length: 4\r\n\r\nbody"
	first, _, _ := message.ReadRequest(s)
	first.Body[0], first.Fields[0].Value = 'x', "y"
	checkReadRequest(t, s, api.Request{Method: "POST", Target: "/", Fields: fields("host", "x", "a", "b"), Body: []byte("body")}, len(s))
	for _, s := range []string{"HTTP/1.1 200 \r\na: b\r\n\r\nbody", "HTTP/1.1 200 \r\na: b\r\ncontent-length: 4\r\n\r\nbody"} {
		p, _ := message.ReadResponse(s, "GET")
		p.Body[0], p.Fields[0].Value = 'x', "y"
		checkReadResponse(t, s, "GET", api.Response{Status: 200, Fields: fields("a", "b"), Body: []byte("body")})
	}
}
