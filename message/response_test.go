package message_test

import (
	"fmt"
	"math"
	"strings"
	"testing"

	"scullery/api"
	"scullery/message"
)

// P8.1: what is Bare.

func TestBare(t *testing.T) {
	methods := []string{"GET", "POST", "", "head", "Head", "HEAD ", " HEAD", "HEA", "HEADER", "CONNECT"}
	for status := -1000; status <= 2000; status++ {
		want := status >= 100 && status < 200 || status == 204 || status == 304
		for _, method := range methods {
			if message.Bare(status, method) != want {
				t.Errorf("Bare(%d, %q): not %t", status, method, want)
			}
		}
		if !message.Bare(status, "HEAD") {
			t.Error("not Bare: HEAD,", status)
		}
	}
	for _, status := range []int{math.MinInt, math.MinInt32, math.MaxInt32, math.MaxInt, 1<<32 + 100, 1<<32 + 204, 1<<16 + 304, 1<<8 + 204} {
		if message.Bare(status, "GET") || !message.Bare(status, "HEAD") {
			t.Error("Bare of", status)
		}
	}
	// The document's example.
	if !message.Bare(304, "GET") {
		t.Error("not Bare: 304, GET")
	}
}

// P8.2: responses.

func TestReadResponse(t *testing.T) {
	for _, c := range []struct {
		s, method string
		want      api.Response
	}{
		{"HTTP/1.1 200 OK\r\n\r\n", "GET", api.Response{Status: 200}},
		{"HTTP/1.1 200 OK\r\n\r\nbody", "GET", api.Response{Status: 200, Body: []byte("body")}},
		{"HTTP/1.1 200 \r\nAge: 5\r\nage:\r\n\r\n", "GET", api.Response{Status: 200, Fields: fields("age", "5", "age", "")}},
		{"HTTP/1.1 404 Not  \t Found\r\nA: b\r\nContent-Length: 2\r\nc: d\r\n\r\n\r\n", "GET", api.Response{Status: 404, Fields: fields("a", "b", "c", "d"), Body: []byte("\r\n")}},
		{"HTTP/1.1 503 200\r\ntransfer-encoding: chunked\r\n\r\n1\r\na\r\n2;x\r\nbc\r\n0\r\nd: e\r\n\r\n", "POST", api.Response{Status: 503, Body: []byte("abc")}},
		{"HTTP/1.1 200 \x80\xff\u00e9\r\ncontent-length: 3\r\n\r\n\x00\xff\n", "", api.Response{Status: 200, Body: []byte("\x00\xff\n")}},
		{"HTTP/1.1 304 Not Modified\r\netag: \"a\"\r\ncontent-length: 5\r\n\r\n", "GET", api.Response{Status: 304, Fields: fields("etag", "\"a\"")}},
		{"HTTP/1.1 200 OK\r\ntransfer-encoding: chunked\r\na: b\r\n\r\n", "HEAD", api.Response{Status: 200, Fields: fields("a", "b")}},
		{"HTTP/1.1 100 Continue\r\n\r\n", "POST", api.Response{Status: 100}},
	} {
		checkReadResponse(t, c.s, c.method, c.want)
	}
}

func TestStatuses(t *testing.T) {
	for number := -1; number <= 1100; number++ {
		s := fmt.Sprintf("HTTP/1.1 %03d x\r\n\r\n", number)
		if number >= 100 && number <= 599 {
			checkReadResponse(t, s, "GET", api.Response{Status: number})
			checkReadResponse(t, s, "HEAD", api.Response{Status: number})
			checkNoResponse(t, api.ErrForm, "GET", fmt.Sprintf("HTTP/1.1 0%d x\r\n\r\n", number), fmt.Sprintf("HTTP/1.1 %d0 x\r\n\r\n", number), fmt.Sprintf("HTTP/1.1 +%d x\r\n\r\n", number), fmt.Sprintf("HTTP/1.1 -%d x\r\n\r\n", number), fmt.Sprintf("HTTP/1.1 %d. x\r\n\r\n", number))
			if bareByWords(number, "GET") {
				checkNoResponse(t, api.ErrForm, "GET", s+"y")
			} else {
				checkReadResponse(t, s+"y", "GET", api.Response{Status: number, Body: []byte("y")})
			}
			checkNoResponse(t, api.ErrForm, "HEAD", s+"y")
		} else {
			checkNoResponse(t, api.ErrForm, "GET", s, fmt.Sprintf("HTTP/1.1 %d \r\n\r\n", number))
			checkNoResponse(t, api.ErrForm, "HEAD", s, fmt.Sprintf("HTTP/1.1 %d \r\n\r\n", number))
		}
	}
	for _, status := range []string{"", "2", "20", "99", "2000", "00200", "0200", "1000", "9999", "2 0", "2x0", "20x", "x20", "+20", "-20", "2.0", "2e2", "0x2", "1_0", "\u0662\u0660\u0660", "\uff12", " 200", "\t200", "200\t", "12345678901234567890", "4294967496", "\"2\"", "2\x000", "20\r", "20\x80"} {
		checkNoResponse(t, api.ErrForm, "GET", "HTTP/1.1 "+status+" \r\n\r\n", "HTTP/1.1 "+status+" OK\r\n\r\n", "HTTP/1.1 "+status+"\r\n\r\n", "HTTP/1.1 "+status+" OK\r\n")
	}
}

func TestFirstLinesOfResponses(t *testing.T) {
	for _, text := range []string{"", "O", "OK", "a b", "a \t  b", "200", "HTTP/1.1", "\"", "\x80", "\xff", "\u00a0", "\u00e9 \u00e9", "a:b", "!~", "\x85"} {
		checkReadResponse(t, "HTTP/1.1 200 "+text+"\r\n\r\nx", "GET", api.Response{Status: 200, Body: []byte("x")})
		checkNoResponse(t, api.ErrForm, "GET", "HTTP/1.1 200  "+text+"\r\n\r\n", "HTTP/1.1 200 "+text+" \r\n\r\n", "HTTP/1.1 200 "+text+"\t\r\n\r\n", "HTTP/1.1 200 \t"+text+"\r\n\r\n", "HTTP/1.1 200"+text+"\r\n\r\n", "HTTP/1.1 200\t"+text+"\r\n\r\n", "HTTP/1.1 200 "+text+"\x00\r\n\r\n", "HTTP/1.1 200 \x7f"+text+"\r\n\r\n", "HTTP/1.1 200 "+text+"\r\r\n\r\n", "HTTP/1.1 200 "+text+"\n\r\n")
	}
	for _, line := range []string{
		"", " ", "HTTP/1.1", "HTTP/1.1 ", "HTTP/1.1  ", "200 OK", " 200 OK", "HTTP/1.1200 OK", "HTTP/1.1 200", "HTTP/1.1 200OK", "HTTP/1.1\t200 OK", "HTTP/1.1 200\tOK", "HTTP/1.1  200 OK", "HTTP/1.1 200  OK", "HTTP/1.1 200 OK ", " HTTP/1.1 200 OK", "HTTP/1.1 OK 200", "HTTP/1.1 200,OK", "HTTP/1.1 200-OK", "GET / HTTP/1.1", "HTTP/1.1 OK",
		"HTTP/1.0 200 OK", "HTTP/1.2 200 OK", "HTTP/2 200 OK", "HTTP/1.11 200 OK", "HTTP/11 200 OK", "HTTP/1 200 OK", "http/1.1 200 OK", "Http/1.1 200 OK", "HTTPS/1.1 200 OK", "HTTP/01.1 200 OK", "xHTTP/1.1 200 OK", "ICY 200 OK", "HTTP/1,1 200 OK", "HTTP/1.1x 200 OK", "HTTP /1.1 200 OK", "HTTP/ 1.1 200 OK", "\x00HTTP/1.1 200 OK", "\rHTTP/1.1 200 OK", "HTTP/1.1\u00a0200 OK",
		"HTTP/1.1 200 \x00", "HTTP/1.1 200 O\x01K", "HTTP/1.1 200 O\x7fK", "HTTP/1.1 200 \x0b", "HTTP/1.1 200 O\rK", "HTTP/1.1 200 \r", "HTTP/1.1 200 \x1f", "HTTP/1.1 200 \x08", "HTTP/1.1 200 \t", "HTTP/1.1 200  ",
	} {
		for _, method := range []string{"GET", "HEAD"} {
			checkNoResponse(t, api.ErrForm, method, line+"\r\n\r\n", line+"\r\n", line+"\r\na: b\r\n\r\n", line+"\r\ncontent-length: 1\r\n\r\nbody", line+"x\n\r\n", line+"\r\nHTTP/1.1 200 OK\r\n\r\n")
			checkNoResponse(t, api.ErrShort, method, line, line+"\r")
		}
	}
	checkNoResponse(t, api.ErrForm, "GET", "\r\nHTTP/1.1 200 OK\r\n\r\n")
}

func TestEachByteInFirstLinesOfResponses(t *testing.T) {
	for _, c := range everyByte() {
		inner, alone := "HTTP/1.1 200 a"+c+"b\r\n\r\nx", "HTTP/1.1 200 "+c+"\r\n\r\nx"
		switch {
		case c == "\t" || c == " ":
			checkReadResponse(t, inner, "GET", api.Response{Status: 200, Body: []byte("x")})
			checkNoResponse(t, api.ErrForm, "GET", alone)
		case c > " " && c != "\x7f":
			checkReadResponse(t, inner, "GET", api.Response{Status: 200, Body: []byte("x")})
			checkReadResponse(t, alone, "GET", api.Response{Status: 200, Body: []byte("x")})
		default:
			checkNoResponse(t, api.ErrForm, "GET", inner, alone)
		}
		for _, s := range []string{c + "00", "2" + c + "0", "20" + c} {
			checkResponse(t, "HTTP/1.1 "+s+" OK\r\n\r\n", "GET")
		}
	}
}

func TestLongFirstLinesOfResponses(t *testing.T) {
	for length := 1990; length <= 2010; length++ {
		for _, line := range []string{"HTTP/1.1 200 " + strings.Repeat("a", length-13), "HTTP/1.1 200 \x80" + strings.Repeat(" ", length-15) + "\xff"} {
			if len(line) != length {
				t.Fatal("not a line of that length:", len(line), length)
			}
			if length <= 2000 {
				checkReadResponse(t, line+"\r\na: b\r\n\r\nx", "GET", api.Response{Status: 200, Fields: fields("a", "b"), Body: []byte("x")})
			} else {
				checkNoResponse(t, api.ErrMany, "GET", line+"\r\na: b\r\n\r\nx", line+"\r\n", line+"\r\n\n")
			}
			checkNoResponse(t, api.ErrForm, "GET", line+"\n", line+"\n\r\n", line+"\x00\n")
		}
	}
}

// P8.2: responses without a body.

func TestBareResponses(t *testing.T) {
	for _, c := range []struct {
		status int
		method string
	}{{100, "GET"}, {101, "POST"}, {199, ""}, {204, "GET"}, {204, "DELETE"}, {304, "GET"}, {304, "HEAD"}, {200, "HEAD"}, {404, "HEAD"}, {599, "HEAD"}, {100, "HEAD"}} {
		line := fmt.Sprintf("HTTP/1.1 %d \r\n", c.status)
		for _, l := range []string{"", "content-length: 0\r\n", "content-length: 9\r\n", "content-length: 100000\r\n", "content-length: 100001\r\n", "content-length: 99999999999999999999\r\n", "content-length: 0009\r\n", "transfer-encoding: chunked\r\n", "transfer-encoding: CHUNKED\r\n"} {
			checkReadResponse(t, line+l+"\r\n", c.method, api.Response{Status: c.status})
			checkReadResponse(t, line+"a: b\r\n"+l+"c: d\r\n\r\n", c.method, api.Response{Status: c.status, Fields: fields("a", "b", "c", "d")})
			for _, rest := range []string{"x", "\r\n", "\n", "0\r\n\r\n", "body body", "9\r\nbody body\r\n0\r\n\r\n", "\x00", mixed(most), mixed(most + 1)} {
				checkNoResponse(t, api.ErrForm, c.method, line+l+"\r\n"+rest, line+"a: b\r\n"+l+"\r\n"+rest)
			}
		}
		for _, l := range wrongLengths {
			checkNoResponse(t, api.ErrForm, c.method, line+l+"\r\n")
		}
	}
	// Other statuses and methods have one.
	for _, c := range []struct {
		status int
		method string
	}{{200, "GET"}, {203, "GET"}, {205, "GET"}, {303, "GET"}, {305, "GET"}, {200, "head"}, {599, "GET"}, {404, "HEADER"}, {201, ""}} {
		line := fmt.Sprintf("HTTP/1.1 %d \r\n", c.status)
		checkReadResponse(t, line+"\r\nx", c.method, api.Response{Status: c.status, Body: []byte("x")})
		checkNoResponse(t, api.ErrShort, c.method, line+"content-length: 1\r\n\r\n", line+"transfer-encoding: chunked\r\n\r\n")
	}
}

// P8.1 and P8.2: the error that is mentioned first is told.

func TestTheFirstErrorOfRequestsIsTold(t *testing.T) {
	long := strings.Repeat("a", 2001)
	for _, c := range []struct {
		s    string
		want api.Errno
	}{
		// The first line, ahead of its form.
		{"GET  / HTTP/1.1", api.ErrShort},
		{"GET  / " + long, api.ErrMany},
		{"GET  / HTTP/1.1\n", api.ErrForm},
		{"GET  / " + long + "\r\n", api.ErrMany},
		{"GET /" + long + " HTTP/1.1\n", api.ErrForm},
		// The first line, ahead of all behind it.
		{"GET / HTTP/1.1\n", api.ErrForm},
		{"GET / HTTP/1.1\n" + long + "\r\n", api.ErrForm},
		{"GET /" + long + " HTTP/1.1\r\na\r\n\r\n", api.ErrMany},
		{"GET /" + long + " HTTP/1.1\r\n", api.ErrMany},
		// The form of the first line, ahead of the fields.
		{"GET / HTTP/1.0\r\n", api.ErrForm},
		{"GET / HTTP/1.0\r\nhost: x\r\n", api.ErrForm},
		{"GET / HTTP/1.0\r\na:" + long + "\r\n\r\n", api.ErrForm},
		{"GET / HTTP/1.0\r\n" + linesOf(numbered(65)) + "\r\n", api.ErrForm},
		{"GET / HTTP/1.0\r\nhost: x\r\ncontent-length: 100001\r\n\r\n", api.ErrForm},
		{"GET / HTTP/1.0\r\nhost: x\r\ncontent-length: 5\r\n\r\nbody", api.ErrForm},
		// The fields, ahead of the hosts.
		{get, api.ErrShort},
		{get + "a: b\r\n", api.ErrShort},
		{get + "host: x\r\nhost: x\r\n", api.ErrShort},
		{get + "a:" + long + "\r\n\r\n", api.ErrMany},
		{get + linesOf(numbered(65)) + "\r\n", api.ErrMany},
		{get + "content-length: 100001\r\na", api.ErrShort},
		{get + "content-length: a\r\n", api.ErrShort},
		{get + "content-length: a\r\na:" + long + "\r\n\r\n", api.ErrMany},
		{get + "host: x\r\ncontent-length: 100001\r\na\r\n\r\n", api.ErrForm},
		// The hosts, ahead of the body.
		{get + "content-length: 100001\r\n\r\n", api.ErrForm},
		{get + "content-length: 5\r\n\r\nbody", api.ErrForm},
		{get + "transfer-encoding: chunked\r\n\r\n", api.ErrForm},
		{get + "transfer-encoding: chunked\r\n\r\n186a1\r\n", api.ErrForm},
		{get + "host: x\r\nhost: x\r\ncontent-length: 100001\r\n\r\n", api.ErrForm},
		{get + "host: x\r\nhost: x\r\ncontent-length: 1\r\n\r\n", api.ErrForm},
		// The length of the body, ahead of the body.
		{post + "content-length: 100001\r\ncontent-length: 100001\r\n\r\n", api.ErrForm},
		{post + "content-length: 5\r\ncontent-length: 5\r\n\r\nbody", api.ErrForm},
		{post + "content-length: 5\r\ntransfer-encoding: chunked\r\n\r\nbody", api.ErrForm},
		{post + "transfer-encoding: chunked\r\ncontent-length: 0\r\n\r\n186a1\r\n", api.ErrForm},
		{post + "transfer-encoding: gzip\r\n\r\n186a1\r\n", api.ErrForm},
		{post + "transfer-encoding: gzip\r\n\r\n", api.ErrForm},
		// Too many bytes, ahead of too few.
		{post + "content-length: 100001\r\n\r\n", api.ErrMany},
		{post + "content-length: 100001\r\n\r\nbody", api.ErrMany},
		{post + "content-length: 100000\r\n\r\nbody", api.ErrShort},
	} {
		checkNoRequest(t, c.want, c.s)
	}
}

func TestTheFirstErrorOfResponsesIsTold(t *testing.T) {
	const ok = "HTTP/1.1 200 OK\r\n"
	long, much := strings.Repeat("a", 2001), mixed(most+1)
	for _, c := range []struct {
		s    string
		want api.Errno
	}{
		// The first line, ahead of its form.
		{"HTTP/1.0 200 OK", api.ErrShort},
		{"HTTP/1.0 200 " + long, api.ErrMany},
		{"HTTP/1.0 200 OK\n", api.ErrForm},
		{"HTTP/1.0 200 " + long + "\r\n", api.ErrMany},
		{"HTTP/1.1 200 " + long + "\n", api.ErrForm},
		{"HTTP/1.1 200 " + long + "\r\na\r\n\r\n", api.ErrMany},
		{"HTTP/1.1 200 OK\n" + long + "\r\n", api.ErrForm},
		// The form of the first line, ahead of the fields and of the body.
		{"HTTP/1.1 600 OK\r\n", api.ErrForm},
		{"HTTP/1.1 600 OK\r\na:" + long + "\r\n\r\n", api.ErrForm},
		{"HTTP/1.1 600 OK\r\n" + linesOf(numbered(65)) + "\r\n", api.ErrForm},
		{"HTTP/1.1 600 OK\r\ncontent-length: 100001\r\n\r\n", api.ErrForm},
		{"HTTP/1.1 200  OK\r\ncontent-length: 5\r\n\r\nbody", api.ErrForm},
		{"HTTP/1.1 200  OK\r\n\r\n" + much, api.ErrForm},
		// The fields, ahead of the length of the body.
		{ok, api.ErrShort},
		{ok + "content-length: a\r\n", api.ErrShort},
		{ok + "content-length: a\r\na:" + long + "\r\n\r\n", api.ErrMany},
		{ok + "content-length: a\r\n" + linesOf(numbered(64)) + "\r\n", api.ErrMany},
		{ok + "content-length: 100001\r\na\r\n\r\n", api.ErrForm},
		{"HTTP/1.1 204 \r\ncontent-length: a\r\n", api.ErrShort},
		{"HTTP/1.1 204 \r\na:" + long + "\r\n\r\nx", api.ErrMany},
		// The length of the body, ahead of the body.
		{ok + "content-length: 100001\r\ncontent-length: 100001\r\n\r\n", api.ErrForm},
		{ok + "content-length: 5\r\ncontent-length: 5\r\n\r\nbody", api.ErrForm},
		{ok + "transfer-encoding: gzip\r\n\r\n186a1\r\n", api.ErrForm},
		{ok + "transfer-encoding: gzip\r\n\r\n" + much, api.ErrForm},
		{ok + "content-length: a\r\n\r\n" + much, api.ErrForm},
		// The body, ahead of what is behind it.
		{ok + "content-length: 100001\r\n\r\n" + much, api.ErrMany},
		{ok + "content-length: 100001\r\n\r\n" + much + "more", api.ErrMany},
		{ok + "content-length: 100001\r\n\r\nbody", api.ErrMany},
		{ok + "content-length: 5\r\n\r\nbody", api.ErrShort},
		{ok + "content-length: 3\r\n\r\n" + much, api.ErrForm},
		{ok + "transfer-encoding: chunked\r\n\r\n186a1\r\n" + much, api.ErrMany},
		{ok + "transfer-encoding: chunked\r\n\r\n1\r\nx\r\n", api.ErrShort},
		{ok + "\r\n" + much, api.ErrMany},
		{"HTTP/1.1 204 \r\n\r\n" + much, api.ErrForm},
		{"HTTP/1.1 204 \r\ncontent-length: 100001\r\n\r\nx", api.ErrForm},
		{"HTTP/1.1 204 \r\ntransfer-encoding: chunked\r\n\r\n186a1\r\n", api.ErrForm},
		{"HTTP/1.1 204 \r\ntransfer-encoding: chunked\r\n\r\n1\r\n", api.ErrForm},
		{"HTTP/1.1 204 \r\ntransfer-encoding: chunked\r\n\r\n0\r\n\r\n", api.ErrForm},
	} {
		checkNoResponse(t, c.want, "GET", c.s)
	}
}
