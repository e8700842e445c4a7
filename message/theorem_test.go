package message_test

import (
	"strings"
	"sync"
	"testing"

	"scullery/api"
	"scullery/message"
)

// P8.4: the theorem.

// checkRequestAgain holds a request that was read, printed and read again against the one that was read first, and reports whether there was one to print.
func checkRequestAgain(t *testing.T, s string) bool {
	q, n, e := message.ReadRequest(s)
	if e != api.OK {
		return false
	}
	// Not all that is read may be printed, but what these tests have is: its fields are short and few.
	if text, e := message.PrintRequest(q); e == api.OK {
		checkReadRequest(t, text, q, len(text))
		checkReadRequest(t, text+s[n:], q, len(text))
		return true
	}
	t.Helper()
	t.Errorf("read, but not printed: %s", brief(q))
	return false
}

func checkResponseAgain(t *testing.T, s, method string) bool {
	p, e := message.ReadResponse(s, method)
	if e != api.OK {
		return false
	}
	if text, e := message.PrintResponse(p, method); e == api.OK {
		checkReadResponse(t, text, method, p)
		return true
	}
	t.Helper()
	t.Errorf("read, but not printed: %s", brief(p))
	return false
}

func TestRequestsWithOneChange(t *testing.T) {
	for _, sample := range []string{
		"PUT /a?b HTTP/1.1\r\nHost: x\r\nContent-Length: 3\r\nA:b \r\n\r\nabcd",
		"PUT * HTTP/1.1\r\nhost:x\r\ntransfer-encoding: Chunked\r\n\r\n2;x\r\nab\r\n1\r\nc\r\n0\r\na: b\r\n\r\nrest",
		"GET / HTTP/1.1\r\na: b\r\nhost:\r\n\r\nrest",
	} {
		read, refused := 0, 0
		for _, s := range changed(sample) {
			checkRequest(t, s)
			if checkRequestAgain(t, s) {
				read++
			} else {
				refused++
			}
		}
		if read < 1000 || refused < 1000 {
			t.Error("one side only:", read, refused)
		}
	}
}

func TestResponsesWithOneChange(t *testing.T) {
	for _, c := range []struct{ sample, method string }{
		{"HTTP/1.1 200 O K\r\nAge: 1\r\nContent-Length: 3\r\nA:b \r\n\r\nabc", "GET"},
		{"HTTP/1.1 404 \r\ntransfer-encoding: Chunked\r\n\r\n2;x\r\nab\r\n1\r\nc\r\n0\r\na: b\r\n\r\n", "GET"},
		{"HTTP/1.1 503 x\r\na:\r\n\r\nbody", "GET"},
		{"HTTP/1.1 304 Not Modified\r\ncontent-length: 10\r\na: b\r\n\r\n", "GET"},
		{"HTTP/1.1 200 OK\r\ntransfer-encoding: chunked\r\na: b\r\n\r\n", "HEAD"},
	} {
		read, refused := 0, 0
		for _, s := range changed(c.sample) {
			checkResponse(t, s, c.method)
			if checkResponseAgain(t, s, c.method) {
				read++
			} else {
				refused++
			}
		}
		if read < 1000 || refused < 1000 {
			t.Error("one side only:", read, refused)
		}
	}
}

func TestAllShortRequests(t *testing.T) {
	read := 0
	for _, c := range []struct {
		ahead  string
		pieces []string
		most   int
		behind string
	}{
		{"", []string{"GET", " ", "/", "HTTP/1.1", "\r\n", "host:x\r\n"}, 7, "\r\n"},
		{"", []string{"a", " ", "\t", "HTTP/1.1", "\x80", "\r", "\n"}, 5, "\r\nhost: x\r\n\r\n"},
		{"A /", []string{" HTTP/1.1", "\r\n", "host:", "\n", "\r", " "}, 6, "\r\n\r\n"},
		{get, []string{"host: x\r\n", "content-length: 1\r\n", "Transfer-Encoding: chunked\r\n", "0\r\n", "\r\n", "x"}, 7, ""},
		{post, []string{"content-length:", "transfer-encoding:", "chunked\r\n", "1\r\n", "0\r\n", "\r\n", "a: b\r\n"}, 6, "\r\nx\r\n0\r\n\r\n"},
	} {
		for _, s := range texts(c.pieces, c.most) {
			checkRequest(t, c.ahead+s+c.behind)
			if checkRequestAgain(t, c.ahead+s+c.behind) {
				read++
			}
		}
	}
	if read < 1000 {
		t.Error("too few of them are requests:", read)
	}
}

func TestAllShortResponses(t *testing.T) {
	read := 0
	for _, c := range []struct {
		ahead  string
		pieces []string
		most   int
		behind string
	}{
		{"", []string{"HTTP/1.1", " ", "200", "204", "\r\n", "x"}, 7, ""},
		{"HTTP/1.1 ", []string{"2", "0", " ", "\t", "\x80", "\r", "\n"}, 6, "\r\n\r\n"},
		{"HTTP/1.1 200 \r\n", []string{"a: b\r\n", "content-length: 1\r\n", "Transfer-Encoding: chunked\r\n", "0\r\n", "\r\n", "x"}, 6, ""},
		{"HTTP/1.1 304 \r\n", []string{"a: b\r\n", "content-length:", "1\r\n", "transfer-encoding:", "chunked\r\n", "\r\n"}, 6, "\r\n"},
	} {
		for _, s := range texts(c.pieces, c.most) {
			for _, method := range []string{"GET", "HEAD"} {
				checkResponse(t, c.ahead+s+c.behind, method)
				if checkResponseAgain(t, c.ahead+s+c.behind, method) {
					read++
				}
			}
		}
	}
	if read < 1000 {
		t.Error("too few of them are responses:", read)
	}
}

// TestDifferentFramings has the same body by its length, in chunks and up to the end.
func TestDifferentFramings(t *testing.T) {
	for _, body := range []string{"", "a", "body", "\r\n0\r\n\r\n", mixed(1000), mixed(most)} {
		want := api.Response{Status: 200, Fields: fields("a", "b"), Body: []byte(body)}
		told, _ := message.PrintResponse(want, "GET")
		checkReadResponse(t, told, "GET", want)
		checkReadResponse(t, "HTTP/1.1 200 OK\r\na: b\r\n\r\n"+body, "GET", want)
		for _, size := range []int{100, 999, 65536, most} {
			checkReadResponse(t, "HTTP/1.1 200 OK\r\na: b\r\ntransfer-encoding: chunked\r\n\r\n"+chunks(body, size), "GET", want)
		}
	}
}

// TestMessagesThatAreReadButNotPrinted has those with one field too many for the field of the length, and with a line that is as long as may be without the blank that is printed.
func TestMessagesThatAreReadButNotPrinted(t *testing.T) {
	long := "a:" + strings.Repeat("b", 1998) + "\r\n"
	q, _, e := message.ReadRequest(post + long + "\r\n")
	if len(q.Fields) != 2 || e != api.OK {
		t.Fatal(len(q.Fields), e)
	}
	checkUnprintableRequest(t, q)
	for _, l := range []string{long, linesOf(numbered(64))} {
		for _, method := range []string{"GET", "HEAD"} {
			p, e := message.ReadResponse("HTTP/1.1 200 \r\n"+l+"\r\n", method)
			if len(p.Fields) == 0 || e != api.OK {
				t.Fatal(len(p.Fields), e)
			}
			checkUnprintableResponse(t, method, p)
		}
	}
}

func TestRequestsThatAreCutOff(t *testing.T) {
	for _, q := range []api.Request{
		{Method: "GET", Target: "/", Fields: fields("host", "x")},
		{Method: "POST", Target: "/" + strings.Repeat("a", 1985), Fields: fields("host", "x"), Body: []byte("body")},
		{Method: "PUT", Target: "*", Fields: hosted(63), Body: []byte(mixed(300))},
		{Method: "PUT", Target: "*", Fields: fields("a", strings.Repeat("b", 1997), "host", "")},
	} {
		checkPrintRequest(t, q)
		s, _ := message.PrintRequest(q)
		for i := range len(s) {
			checkNoRequest(t, api.ErrShort, s[:i])
		}
	}
	for _, size := range []int{1, 2, 16} {
		s := post + "a: b\r\nTransfer-Encoding: chunked\r\n\r\n" + chunks(mixed(40), size)
		for i := range len(s) {
			checkNoRequest(t, api.ErrShort, s[:i])
		}
	}
}

// TestSeveralRequests reads those of one text one by one.
func TestSeveralRequests(t *testing.T) {
	list := []api.Request{
		{Method: "GET", Target: "/1", Fields: fields("host", "x")},
		{Method: "POST", Target: "/2", Fields: fields("host", "x", "a", "b"), Body: []byte("GET / HTTP/1.1\r\n\r\n")},
		{Method: "PUT", Target: "/3", Fields: fields("host", "x"), Body: []byte(mixed(most))},
		{Method: "GET", Target: "/4", Fields: fields("host", "x")},
	}
	text := ""
	for _, q := range list {
		s, _ := message.PrintRequest(q)
		text += s
	}
	for _, want := range list {
		q, n, e := message.ReadRequest(text)
		if !sameRequest(q, want) || e != api.OK {
			t.Fatalf("%s, %d; not %s", brief(q), e, brief(want))
		}
		text = text[n:]
	}
	if text != "" {
		t.Error("left:", brief(text))
	}
}

// R4 and R5: the same call answers the same again, beside calls from other goroutines too.

func TestCallsAtTheSameTime(t *testing.T) {
	q := api.Request{Method: "POST", Target: "/", Fields: hosted(20), Body: []byte(mixed(1000))}
	p := api.Response{Status: 200, Fields: numbered(20), Body: []byte(mixed(1000))}
	requestWanted, responseWanted := requestText(q), responseText(p, "GET")
	var group sync.WaitGroup
	for range 8 {
		group.Go(func() {
			for range 100 {
				s, printed := message.PrintRequest(q)
				r, n, read := message.ReadRequest(requestWanted + "more")
				if s != requestWanted || printed != api.OK || !sameRequest(q, r) || n != len(s) || read != api.OK {
					t.Error("another request beside other calls")
				}
				s, printed = message.PrintResponse(p, "GET")
				again, read := message.ReadResponse(responseWanted, "GET")
				if s != responseWanted || printed != api.OK || !sameResponse(p, again) || read != api.OK || !message.Bare(204, "GET") {
					t.Error("another response beside other calls")
				}
			}
		})
	}
	group.Wait()
}
