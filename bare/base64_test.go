package bare_test

import (
	"encoding/base64"
	"strings"
	"testing"

	"scullery/api"
	"scullery/bare"
)

// decodeByLibrary is Decode by the library, which skips the ends of lines though they are not of the alphabet.
func decodeByLibrary(s string) (string, api.Errno) {
	b, err := base64.StdEncoding.Strict().DecodeString(s)
	if err != nil || strings.ContainsAny(s, "\r\n") {
		return "", api.ErrForm
	}
	return string(b), api.OK
}

func checkDecode(t *testing.T, s string) {
	t.Helper()
	want, wantErr := decodeByLibrary(s)
	if b, e := bare.Decode(s); b != want || e != wantErr {
		t.Errorf("Decode(%q) = %q, %d; not %q, %d", s, b, e, want, wantErr)
	}
}

func checkEncode(t *testing.T, b string) {
	t.Helper()
	s := bare.Encode(b)
	if s != base64.StdEncoding.EncodeToString([]byte(b)) {
		t.Errorf("Encode(%q) = %q", b, s)
	}
	if again, e := bare.Decode(s); again != b || e != api.OK {
		t.Errorf("Decode(%q) = %q, %d", s, again, e)
	}
}

// P2.1: the encoding.

func TestEncodeOfWords(t *testing.T) {
	for b, want := range map[string]string{
		"": "", "f": "Zg==", "fo": "Zm8=", "foo": "Zm9v", "foob": "Zm9vYg==", "fooba": "Zm9vYmE=", "foobar": "Zm9vYmFy",
		"\x00": "AA==", "\x00\x00": "AAA=", "\x00\x00\x00": "AAAA", "\xff": "/w==", "\xff\xff": "//8=", "\xff\xff\xff": "////", "\xfb\xef\xbe": "++++", "\x00\x10\x83\x10\x51\x87": "ABCDEFGH",
	} {
		if s := bare.Encode(b); s != want {
			t.Errorf("Encode(%q) = %q", b, s)
		}
		if again, e := bare.Decode(want); again != b || e != api.OK {
			t.Errorf("Decode(%q) = %q, %d", want, again, e)
		}
	}
}

func TestEncodeOfEachPairOfBytes(t *testing.T) {
	eachText(everyByte(), 2, func(b string) {
		checkEncode(t, b)
		checkEncode(t, b+"\x5a\xa5")
		checkEncode(t, "\xff"+b)
	})
}

func TestEncodeOfEachLength(t *testing.T) {
	all := strings.Repeat(everyByte(), 3)
	for n := range len(all) {
		checkEncode(t, all[:n])
		checkEncode(t, all[len(all)-n:])
	}
}

func TestTheAlphabetInItsOrder(t *testing.T) {
	const order = letters + "0123456789+/"
	for i := range len(order) {
		if s := bare.Encode(oneByte(i << 2)); s != order[i:i+1]+"A==" {
			t.Errorf("%d is written %q", i, s)
		}
	}
}

// P2.1: what is no encoding.

func TestDecodeOfAllShortTexts(t *testing.T) {
	eachText("AQ/8=\n-", 6, func(s string) { checkDecode(t, s) })
	eachText("AQg=", 9, func(s string) { checkDecode(t, s) })
}

func TestDecodeOfEachPairOfBytes(t *testing.T) {
	eachText(everyByte(), 2, func(s string) {
		checkDecode(t, s)
		checkDecode(t, s+"==")
		checkDecode(t, "AA"+s)
		checkDecode(t, "AAAA"+s+"==")
	})
}

func TestDecodeOfMissingBits(t *testing.T) {
	const order = letters + "0123456789+/"
	for i := range len(order) {
		one, two := "A"+order[i:i+1]+"==", "AA"+order[i:i+1]+"="
		if _, e := bare.Decode(one); (e == api.OK) != (i%16 == 0) {
			t.Errorf("Decode(%q): error %d", one, e)
		}
		if _, e := bare.Decode(two); (e == api.OK) != (i%4 == 0) {
			t.Errorf("Decode(%q): error %d", two, e)
		}
	}
}

func TestDecodeOfOthers(t *testing.T) {
	for _, s := range []string{
		"A", "AA", "AAA", "AAAAA", "AAAAAA", "AAAAAAA", "=", "==", "===", "====", "A=", "A==", "A===", "AA=", "AA===", "AAA==", "AAAA=", "AAAA==", "AAAA===", "AAAA====", "=AAA", "AA=A", "A=A=", "AA==AA==", "AA==AAAA", "AAA=AAAA",
		"AAAB=", "AB==", "AAB=", "aGVsbG9=", "-_-_", "AA A", " AAAA", "AAAA ", "AAAA\n", "AA\r\nAA", "\nAA==", ":AAA", "AA==:", "AAA\x00", "AAA\x80", "AA\x00=", "\xff\xff\xff\xff", "caf\u00e9", "AA=\x3d\x00",
	} {
		if b, e := bare.Decode(s); b != "" || e != api.ErrForm {
			t.Errorf("Decode(%q) = %q, %d", s, b, e)
		}
	}
}
