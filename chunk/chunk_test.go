package chunk_test

import (
	"fmt"
	"math"
	"strings"
	"sync"
	"testing"

	"scullery/api"
	"scullery/chunk"
)

const most = 100000

// brief returns s for a message, cut off where it is long.
func brief(s string) string {
	return fmt.Sprintf("%.300s", fmt.Sprintf("%q", s))
}

// mixed returns that many bytes, of which no two neighbours are the same.
func mixed(length int) string {
	b := make([]byte, length)
	for i := range b {
		b[i] = byte(i * 7)
	}
	return string(b)
}

// encodeByWords is Encode by the words of the document, for what is to be encoded.
func encodeByWords(body string, size int) string {
	var chunks []string
	for i := 0; i < len(body); {
		end := len(body)
		if size < len(body)-i {
			end = i + size
		}
		chunks = append(chunks, fmt.Sprintf("%x\r\n%s\r\n", end-i, body[i:end]))
		i = end
	}
	return strings.Join(chunks, "") + "0\r\n\r\n"
}

// checkBack holds Decode of an encoded body against that body (P7.3).
func checkBack(t *testing.T, body string, size int) {
	t.Helper()
	s, e := chunk.Encode(body, size)
	if s != encodeByWords(body, size) || e != api.OK {
		t.Errorf("Encode(%s, %d) = %s, %d", brief(body), size, brief(s), e)
	}
	for _, behind := range []string{"", "\r\n", "0\r\n\r\n", "GET / HTTP/1.1\r\n", mixed(3000)} {
		if b, n, e := chunk.Decode(s + behind); b != body || n != len(s) || e != api.OK {
			t.Errorf("Decode of Encode(%s, %d), and %s: %s, %d, %d", brief(body), size, brief(behind), brief(b), n, e)
		}
	}
}

func checkNotEncoded(t *testing.T, body string, size int, want api.Errno) {
	t.Helper()
	if s, e := chunk.Encode(body, size); s != "" || e != want {
		t.Errorf("Encode(%s, %d) = %s, %d; not %d", brief(body), size, brief(s), e, want)
	}
}

// P7.2: the chunks of a body.

func TestEncode(t *testing.T) {
	for _, c := range []struct {
		body string
		size int
		want string
	}{
		// The document's example.
		{"abc", 2, "2\r\nab\r\n1\r\nc\r\n0\r\n\r\n"},
		{"", 1, "0\r\n\r\n"},
		{"", 16, "0\r\n\r\n"},
		{"", math.MaxInt, "0\r\n\r\n"},
		{"a", 1, "1\r\na\r\n0\r\n\r\n"},
		{"abc", 1, "1\r\na\r\n1\r\nb\r\n1\r\nc\r\n0\r\n\r\n"},
		{"abc", 3, "3\r\nabc\r\n0\r\n\r\n"},
		{"abc", 4, "3\r\nabc\r\n0\r\n\r\n"},
		{"abc", math.MaxInt, "3\r\nabc\r\n0\r\n\r\n"},
		{"abcd", 2, "2\r\nab\r\n2\r\ncd\r\n0\r\n\r\n"},
		{"abcde", 2, "2\r\nab\r\n2\r\ncd\r\n1\r\ne\r\n0\r\n\r\n"},
		{"0123456789", 10, "a\r\n0123456789\r\n0\r\n\r\n"},
		{"0123456789abcdef", 15, "f\r\n0123456789abcde\r\n1\r\nf\r\n0\r\n\r\n"},
		{"0123456789abcdef", 16, "10\r\n0123456789abcdef\r\n0\r\n\r\n"},
		{"0123456789abcdefgh", 17, "11\r\n0123456789abcdefg\r\n1\r\nh\r\n0\r\n\r\n"},
		{"\r\n0\r\n\r\n", 3, "3\r\n\r\n0\r\n3\r\n\r\n\r\r\n1\r\n\n\r\n0\r\n\r\n"},
		{"\x00\xff\u00e9", 3, "3\r\n\x00\xff\xc3\r\n1\r\n\xa9\r\n0\r\n\r\n"},
		{strings.Repeat("x", 0x1ff), 0xab, strings.Repeat("ab\r\n"+strings.Repeat("x", 0xab)+"\r\n", 2) + "a9\r\n" + strings.Repeat("x", 0xa9) + "\r\n0\r\n\r\n"},
	} {
		if s, e := chunk.Encode(c.body, c.size); s != c.want || e != api.OK {
			t.Errorf("Encode(%s, %d) = %s, %d; not %s", brief(c.body), c.size, brief(s), e, brief(c.want))
		}
		checkBack(t, c.body, c.size)
	}
}

func TestLengthsOfEncodedChunks(t *testing.T) {
	for length, digits := range map[int]string{
		1: "1", 9: "9", 10: "a", 15: "f", 16: "10", 171: "ab", 255: "ff", 256: "100", 2748: "abc", 4095: "fff", 4096: "1000", 57005: "dead", 65535: "ffff", 65536: "10000", most: "186a0",
	} {
		body := mixed(length)
		for _, size := range []int{length, length + 1, 2 * length, math.MaxInt32, math.MaxInt32 + 1, math.MaxUint32 + 1, math.MaxInt - 1, math.MaxInt} {
			if s, e := chunk.Encode(body, size); s != digits+"\r\n"+body+"\r\n0\r\n\r\n" || e != api.OK {
				t.Errorf("Encode of %d bytes, size %d: %s, %d", length, size, brief(s), e)
			}
		}
	}
}

func TestSizesThatMayNotBe(t *testing.T) {
	for _, size := range []int{0, -1, -2, -16, -most, math.MinInt32, math.MinInt32 - 1, math.MinInt + 1, math.MinInt} {
		for _, body := range []string{"", "a", "abc", mixed(most)} {
			checkNotEncoded(t, body, size, api.ErrArg)
		}
		// A wrong size is told ahead of a long body.
		checkNotEncoded(t, mixed(most+1), size, api.ErrArg)
	}
}

func TestBodiesThatAreTooLong(t *testing.T) {
	for _, size := range []int{1, 2, 17, most - 1, most, most + 1, math.MaxInt} {
		checkBack(t, mixed(most-1), size)
		checkBack(t, mixed(most), size)
		for _, more := range []int{1, 2, most, 10 * most} {
			checkNotEncoded(t, mixed(most+more), size, api.ErrMany)
		}
	}
	// Counted in bytes, not in characters.
	checkBack(t, strings.Repeat("\u00e9", most/2), 3)
	checkNotEncoded(t, strings.Repeat("\u00e9", most/2)+"e", 3, api.ErrMany)
}

// P7.3: the theorem.

func TestDecodingEncodedBodies(t *testing.T) {
	for length := range 300 {
		body := mixed(length)
		for size := 1; size < length+3; size++ {
			checkBack(t, body, size)
		}
		checkBack(t, body, math.MaxInt)
	}
	for _, body := range texts([]string{"a", "0", "\r", "\n", ";", "\xff"}, 4) {
		for size := range 5 {
			checkBack(t, body, size+1)
		}
	}
	for _, size := range []int{1, 2, 3, 15, 16, 17, 255, 256, 257, 4095, 4096, 4097, 49999, 50000, 50001, 65535, 65536} {
		checkBack(t, mixed(most), size)
		checkBack(t, strings.Repeat("\r\n", most/2), size)
		checkBack(t, strings.Repeat("0\r\n\r\n", most/5), size)
	}
}

func TestEncodedBodiesThatAreCutOff(t *testing.T) {
	for _, body := range []string{"", "a", "abc", mixed(40), "\r\n0\r\n\r\n"} {
		for _, size := range []int{1, 2, 3, 16, 17, math.MaxInt} {
			s, _ := chunk.Encode(body, size)
			for i := range len(s) {
				checkRefused(t, api.ErrShort, s[:i])
			}
		}
	}
}

// R4 and R5: the same call answers the same again, beside calls from other goroutines too.

func TestCallsAtTheSameTime(t *testing.T) {
	body := mixed(1000)
	want := encodeByWords(body, 7)
	var group sync.WaitGroup
	for range 8 {
		group.Go(func() {
			for range 200 {
				s, e := chunk.Encode(body, 7)
				b, n, decodeError := chunk.Decode(want + "more")
				_, _, refused := chunk.Decode(want[:500])
				if s != want || e != api.OK || b != body || n != len(want) || decodeError != api.OK || refused != api.ErrShort {
					t.Error("another answer beside other calls")
				}
			}
		})
	}
	group.Wait()
}
