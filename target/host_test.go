package target_test

import (
	"strings"
	"testing"
)

const hostBytes = "ABCDEFGHIJKLMNOPQRSTUVWXYZabcdefghijklmnopqrstuvwxyz0123456789.-"

// P9.1: hosts.

func TestHost(t *testing.T) {
	for s, want := range map[string]string{
		"a.b": "a.b", "A.b": "a.b", "Example.COM": "example.com", "127.0.0.1": "127.0.0.1", "x": "x", "X": "x", "0": "0", "80": "80", "808080": "808080",
		// What is no name elsewhere is one here.
		".": ".", "-": "-", "..": "..", "a..b": "a..b", "-a-": "-a-", ".a.": ".a.", "1.": "1.",
		// Without the port.
		"a:": "a", "A:": "a", "a:80": "a", "A.B-c:80": "a.b-c", "80:80": "80", ".:": ".", "-:80": "-",
		// With the port.
		"a:8": "a:8", "a:0": "a:0", "a:00": "a:00", "a:08": "a:08", "a:81": "a:81", "a:79": "a:79", "a:90": "a:90", "a:800": "a:800", "a:080": "a:080", "a:0080": "a:0080", "a:00080": "a:00080", "a:8080": "a:8080", "a:443": "a:443",
		"A:1": "a:1", "EXAMPLE.com:8080": "example.com:8080", "A:12345": "a:12345", "a:99999": "a:99999", "a:80000": "a:80000", "a:80808": "a:80808", "80:8": "80:8", "x:65535": "x:65535", "x:65536": "x:65536",
		// Every byte that a host has.
		hostBytes: strings.ToLower(hostBytes), hostBytes + ":80": strings.ToLower(hostBytes), hostBytes + ":01234": strings.ToLower(hostBytes) + ":01234", "a:56789": "a:56789",
	} {
		checkHost(t, s, want)
		if !checkHostByForm(t, s) {
			t.Error("no host by its form:", s)
		}
	}
}

func TestHostsThatAreNone(t *testing.T) {
	checkNoHost(t,
		"",
		// Without a name.
		":", ":8", ":80", ":080", ":8080", ":12345", ":123456", "::", ":80:80", ":a",
		// With two colons.
		"a::", "a:::", "a::80", "a:80:", "a:80:80", "a:1:2", "a:b:80", "a:80:b", "a:12:34", "A::1", "::1",
		// With more digits than may be.
		"a:123456", "a:000000", "a:000080", "a:800000", "a:808080", "a:1234567890", "a:"+strings.Repeat("0", 100), "a:"+strings.Repeat("8", 10000),
		// With what is no digit.
		"a:b", "a:B", "a:8a", "a:a8", "a:80a", "a:80 ", "a: 80", "a: ", "a:+8", "a:-8", "a:8.", "a:8-", "a:.80", "a:8_0", "a:0x8", "a:8\x00", "a:\u0668", "a:\xff", "a:80/", "a:80?",
		// With what is no byte of a name.
		" ", "\t", "a b", " a", "a ", "a_b", "_", "~", "a~", "a/b", "a/", "/", "a?b", "?", "a#b", "a@b", "u@a", "u:p@a:80", "a%41", "%", "a%2eb", "a,b", "a;b", "a!", "a$", "a&b", "a'", "(a)", "a*", "*", "a+b", "a=b", "[::1]", "[a]", "[::1]:80", "a\\b", "a\"", "<a>", "{a}", "a|b", "a^b", "`a`", "a\x00", "\x00", "a\n", "\r\n", "a\x7f", "a\x80", "\xff", "caf\u00e9", "\u212a", "\u00c5.b", "http://a", "a\xc3", "a:80\n",
	)
}

func TestEachByteOfHosts(t *testing.T) {
	for _, c := range everyByte() {
		in := strings.Contains(hostBytes, c)
		for _, s := range []string{c, "a" + c, c + "a", "a" + c + "b", "A.b" + c + ":80", c + ":8", strings.Repeat(c, 3) + ":"} {
			if c == ":" {
				continue
			}
			if checkHostByForm(t, s) != in {
				t.Errorf("%q is a host: %v", s, !in)
			}
		}
		digit := "0" <= c && c <= "9"
		for _, s := range []string{"a:" + c, "a:8" + c, "a:" + c + "0", "a:8" + c + "0", "a:1234" + c, "a:" + c + "2345"} {
			if checkHostByForm(t, s) != digit {
				t.Errorf("%q is a host: %v", s, !digit)
			}
		}
	}
	for _, first := range everyByte() {
		for _, second := range everyByte() {
			checkHostByForm(t, first+second)
			checkHostByForm(t, "A:"+first+second)
		}
	}
}

func TestAllShortHosts(t *testing.T) {
	hosts := 0
	for _, c := range []struct {
		pieces []string
		most   int
	}{
		{[]string{"a", "Z", "8", "0", ":", "-", ".", "_"}, 6},
		{[]string{"A", "8", "0", ":"}, 9},
	} {
		for _, s := range texts(c.pieces, c.most) {
			if checkHostByForm(t, s) {
				hosts++
			}
		}
	}
	if hosts < 10000 {
		t.Error("too few of them are hosts:", hosts)
	}
	for _, s := range changed("Ab-1.C:8080") {
		checkHostByForm(t, s)
	}
}

func TestAllPorts(t *testing.T) {
	for length := range 8 {
		for _, digits := range texts([]string{"0", "8", "9"}, length) {
			checkHostByForm(t, "Aa:"+digits)
		}
	}
}

func TestLongHosts(t *testing.T) {
	long := strings.Repeat("aB.-9", 200000)
	for _, port := range []string{"", ":", ":80", ":080", ":12345", ":123456", ":8 ", ":8:"} {
		checkHostByForm(t, long+port)
	}
	checkNoHost(t, long+"_", "_"+long, ":"+long, long+":"+long)
}
