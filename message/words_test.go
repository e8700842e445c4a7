package message_test

import (
	"fmt"
	"regexp"
	"slices"
	"strconv"
	"strings"
	"testing"

	"scullery/api"
	"scullery/chunk"
	"scullery/head"
	"scullery/message"
)

const most = 100000

// The first lines, the coding and the numbers of the length, as the document says them.
var (
	requestForm  = regexp.MustCompile("^([A-Za-z0-9!#$%&'*+.^_|~`-]+) ([!-~]+) HTTP/1\\.1$")
	responseForm = regexp.MustCompile(`^HTTP/1\.1 ([1-5][0-9][0-9]) (|[^\x00-\x20\x7f]|[^\x00-\x20\x7f][^\x00-\x08\x0a-\x1f\x7f]*[^\x00-\x20\x7f])$`)
	codingForm   = regexp.MustCompile(`^[Cc][Hh][Uu][Nn][Kk][Ee][Dd]$`)
	numberForm   = regexp.MustCompile(`^0*([0-9]+)$`)
)

// brief returns x for a message, cut off where it is long.
func brief(x any) string {
	text := fmt.Sprintf("%q", x)
	if p, is := x.(api.Response); is {
		text = fmt.Sprintf("%d %q %q", p.Status, p.Fields, p.Body)
	}
	return fmt.Sprintf("%.300s", text)
}

// mixed returns that many bytes, of which no two neighbours are the same.
func mixed(length int) string {
	b := make([]byte, length)
	for i := range b {
		b[i] = byte(i * 7)
	}
	return string(b)
}

// fields returns the fields of names and values by turns.
func fields(texts ...string) []api.Field {
	var l []api.Field
	for i := 0; i < len(texts); i += 2 {
		l = append(l, api.Field{Name: texts[i], Value: texts[i+1]})
	}
	return l
}

// numbered returns that many fields, each of another name.
func numbered(count int) []api.Field {
	var l []api.Field
	for i := range count {
		l = append(l, api.Field{Name: "n" + strconv.Itoa(i), Value: strconv.Itoa(i)})
	}
	return l
}

// hosted returns that many fields, of which the first is host.
func hosted(count int) []api.Field { return append(fields("host", "x"), numbered(count-1)...) }

// linesOf is the text of fields by the words of the document, without the empty line.
func linesOf(l []api.Field) string {
	s := ""
	for _, f := range l {
		s += f.Name + ": " + f.Value + "\r\n"
	}
	return s
}

// texts returns all texts of at most that many pieces, the empty one among them.
func texts(pieces []string, most int) []string {
	all := []string{""}
	last := all
	for range most {
		var longer []string
		for _, s := range last {
			for _, piece := range pieces {
				longer = append(longer, s+piece)
			}
		}
		all = append(all, longer...)
		last = longer
	}
	return all
}

func everyByte() []string {
	var every []string
	for c := range 256 {
		every = append(every, string([]byte{byte(c)}))
	}
	return every
}

// changed returns s with each change of one place: a byte changed, put in or left out, a piece left out or doubled.
func changed(s string) []string {
	var all []string
	for i := range len(s) {
		for _, c := range everyByte() {
			all = append(all, s[:i]+c+s[i+1:], s[:i]+c+s[i:])
		}
		for j := i + 1; j <= len(s); j++ {
			all = append(all, s[:i]+s[j:], s[:j]+s[i:])
		}
	}
	return all
}

// chunks are the chunks of a body, each of that many bytes, with an end.
func chunks(body string, size int) string {
	s := ""
	for piece := range slices.Chunk([]byte(body), size) {
		s += fmt.Sprintf("%x\r\n%s\r\n", len(piece), piece)
	}
	return s + "0\r\n\r\n"
}

// lineByWords is the first line of s without its end, and its error.
func lineByWords(s string) (string, api.Errno) {
	end := strings.IndexByte(s, 10)
	switch {
	case end < 0 && len(s) > 2000+2:
		return "", api.ErrMany
	case end < 0:
		return "", api.ErrShort
	case end == 0 || s[end-1] != 13:
		return "", api.ErrForm
	case end-1 > 2000:
		return "", api.ErrMany
	}
	return s[:end-1], api.OK
}

// bodyByWords is the body that the fields determine, in rest; its bytes there; whether its length is specified; and its error. Only the errors of the length are told where the message is Bare.
func bodyByWords(l []api.Field, rest string, bare bool) (body string, length int, specified bool, err api.Errno) {
	var codings, numbers []string
	for _, f := range l {
		switch f.Name {
		case "transfer-encoding":
			codings = append(codings, f.Value)
		case "content-length":
			numbers = append(numbers, f.Value)
		}
	}
	switch {
	case len(codings) > 0 && len(numbers) > 0 || len(codings) > 1 || len(numbers) > 1:
		return "", 0, true, api.ErrForm
	case len(codings) == 1 && !codingForm.MatchString(codings[0]) || len(numbers) == 1 && !numberForm.MatchString(numbers[0]):
		return "", 0, true, api.ErrForm
	case bare:
		return "", 0, true, api.OK
	case len(codings) == 1:
		body, length, err = chunk.Decode(rest)
		return body, length, true, err
	case len(numbers) == 0:
		return "", 0, false, api.OK
	}
	digits := numberForm.FindStringSubmatch(numbers[0])[1]
	number, wrong := strconv.Atoi(digits)
	switch {
	case wrong != nil || number > 100000:
		return "", 0, true, api.ErrMany
	case number > len(rest):
		return "", 0, true, api.ErrShort
	}
	return rest[:number], number, true, api.OK
}

// kept are the fields without those of the length.
func kept(l []api.Field) []api.Field {
	return slices.DeleteFunc(l, func(f api.Field) bool { return f.Name == "content-length" || f.Name == "transfer-encoding" })
}

func requestByWords(s string) (api.Request, int, api.Errno) {
	line, err := lineByWords(s)
	if err != api.OK {
		return api.Request{}, 0, err
	}
	parts := requestForm.FindStringSubmatch(line)
	if parts == nil {
		return api.Request{}, 0, api.ErrForm
	}
	start := len(line) + 2
	l, n, err := head.Parse(s[start:])
	if err != api.OK {
		return api.Request{}, 0, err
	}
	hosts := 0
	for _, f := range l {
		if f.Name == "host" {
			hosts++
		}
	}
	if hosts != 1 {
		return api.Request{}, 0, api.ErrForm
	}
	body, m, _, err := bodyByWords(l, s[start+n:], false)
	if err != api.OK {
		return api.Request{}, 0, err
	}
	return api.Request{Method: parts[1], Target: parts[2], Fields: kept(l), Body: []byte(body)}, start + n + m, api.OK
}

func bareByWords(status int, method string) bool {
	return method == "HEAD" || status >= 100 && status <= 199 || status == 204 || status == 304
}

func responseByWords(s, method string) (api.Response, api.Errno) {
	line, err := lineByWords(s)
	if err != api.OK {
		return api.Response{}, err
	}
	parts := responseForm.FindStringSubmatch(line)
	if parts == nil {
		return api.Response{}, api.ErrForm
	}
	l, n, err := head.Parse(s[len(line)+2:])
	if err != api.OK {
		return api.Response{}, err
	}
	status, _ := strconv.Atoi(parts[1])
	rest := s[len(line)+2+n:]
	body, m, specified, err := bodyByWords(l, rest, bareByWords(status, method))
	switch {
	case err != api.OK:
		return api.Response{}, err
	case !specified && len(rest) > 100000:
		return api.Response{}, api.ErrMany
	case !specified:
		body = rest
	case m < len(rest):
		return api.Response{}, api.ErrForm
	}
	return api.Response{Status: status, Fields: kept(l), Body: []byte(body)}, api.OK
}

func sameRequest(a, b api.Request) bool {
	return a.Method == b.Method && a.Target == b.Target && slices.Equal(a.Fields, b.Fields) && string(a.Body) == string(b.Body)
}

func sameResponse(a, b api.Response) bool {
	return a.Status == b.Status && slices.Equal(a.Fields, b.Fields) && string(a.Body) == string(b.Body)
}

// checkRequest holds ReadRequest against the words of the document, and reports whether s begins with a request.
func checkRequest(t *testing.T, s string) bool {
	want, length, err := requestByWords(s)
	if q, n, e := message.ReadRequest(s); !sameRequest(q, want) || n != length || e != err {
		t.Helper()
		t.Errorf("ReadRequest(%s) = %s, %d, %d; not %s, %d, %d", brief(s), brief(q), n, e, brief(want), length, err)
	}
	return err == api.OK
}

// checkResponse holds ReadResponse against the words of the document, and reports whether s is a response.
func checkResponse(t *testing.T, s, method string) bool {
	want, err := responseByWords(s, method)
	if p, e := message.ReadResponse(s, method); !sameResponse(p, want) || e != err {
		t.Helper()
		t.Errorf("ReadResponse(%s, %q) = %s, %d; not %s, %d", brief(s), method, brief(p), e, brief(want), err)
	}
	return err == api.OK
}

func checkReadRequest(t *testing.T, s string, want api.Request, length int) {
	t.Helper()
	if q, n, e := message.ReadRequest(s); !sameRequest(q, want) || n != length || e != api.OK {
		t.Errorf("ReadRequest(%s) = %s, %d, %d; not %s, %d", brief(s), brief(q), n, e, brief(want), length)
	}
	checkRequest(t, s)
}

func checkReadResponse(t *testing.T, s, method string, want api.Response) {
	t.Helper()
	if p, e := message.ReadResponse(s, method); !sameResponse(p, want) || e != api.OK {
		t.Errorf("ReadResponse(%s, %q) = %s, %d; not %s", brief(s), method, brief(p), e, brief(want))
	}
	checkResponse(t, s, method)
}

// checkNoRequest holds each of the texts against the error, and against zero values beside it (R1).
func checkNoRequest(t *testing.T, want api.Errno, texts ...string) {
	t.Helper()
	for _, s := range texts {
		if q, n, e := message.ReadRequest(s); !sameRequest(q, api.Request{}) || n != 0 || e != want {
			t.Errorf("ReadRequest(%s) = %s, %d, %d; not %d", brief(s), brief(q), n, e, want)
		}
		checkRequest(t, s)
	}
}

func checkNoResponse(t *testing.T, want api.Errno, method string, texts ...string) {
	t.Helper()
	for _, s := range texts {
		if p, e := message.ReadResponse(s, method); !sameResponse(p, api.Response{}) || e != want {
			t.Errorf("ReadResponse(%s, %q) = %s, %d; not %d", brief(s), method, brief(p), e, want)
		}
		checkResponse(t, s, method)
	}
}
