package bare

import (
	"strings"

	"scullery/api"
)

// alphabet has the characters of base64 at the places that they stand for.
var alphabet = [64]byte{
	'A', 'B', 'C', 'D', 'E', 'F', 'G', 'H', 'I', 'J', 'K', 'L', 'M', 'N', 'O', 'P',
	'Q', 'R', 'S', 'T', 'U', 'V', 'W', 'X', 'Y', 'Z', 'a', 'b', 'c', 'd', 'e', 'f',
	'g', 'h', 'i', 'j', 'k', 'l', 'm', 'n', 'o', 'p', 'q', 'r', 's', 't', 'u', 'v',
	'w', 'x', 'y', 'z', '0', '1', '2', '3', '4', '5', '6', '7', '8', '9', '+', '/',
}

// Encode returns the base64 encoding of b.
func Encode(b string) string {
	var text []byte
	for b != "" {
		// A copy of fewer than three bytes leaves the missing bits 0, and tells how many there were.
		var three [3]byte
		n := copy(three[:], b)
		four := characters(three)
		copy(four[n+1:], "==")
		text = append(text, four[:]...)
		b = b[n:]
	}
	return string(text)
}

func characters(three [3]byte) [4]byte {
	bits := uint32(three[0])<<16 | uint32(three[1])<<8 | uint32(three[2])
	return [4]byte{alphabet[bits>>18], alphabet[bits>>12&63], alphabet[bits>>6&63], alphabet[bits&63]}
}

// Decode returns the bytes whose base64 encoding is s.
func Decode(s string) (string, api.Errno) {
	text := strings.TrimRight(s, "=")
	content := make([]byte, len(text)*3/4)
	for i := 0; i < len(text); i += 4 {
		three := bytesOf(text[i:min(i+4, len(text))])
		copy(content[i/4*3:], three[:])
	}
	// Encoded again, since that refuses all that differs: foreign characters, a wrong end, missing bits that are not 0.
	if b := string(content); Encode(b) == s {
		return b, api.OK
	}
	return "", api.ErrForm
}

// bytesOf returns the bytes of at most four characters, as if those that are missing stood for 0.
func bytesOf(text string) [3]byte {
	bits := uint32(0)
	for i := range 4 {
		bits <<= 6
		if i < len(text) {
			bits |= valueOf(text[i])
		}
	}
	return [3]byte{byte(bits >> 16), byte(bits >> 8), byte(bits)}
}

// valueOf returns what c stands for, 0 if it is not of the alphabet.
func valueOf(c byte) uint32 {
	for i := range len(alphabet) {
		if alphabet[i] == c {
			return uint32(i)
		}
	}
	return 0
}
