package target_test

import (
	"fmt"
	"strings"
	"testing"
)

const (
	unreserved = "ABCDEFGHIJKLMNOPQRSTUVWXYZabcdefghijklmnopqrstuvwxyz0123456789-._~"
	// visible are the bytes from 33 to 126, without # and %.
	visible = "!\"$&'()*+,-./0123456789:;<=>?@ABCDEFGHIJKLMNOPQRSTUVWXYZ[\\]^_`abcdefghijklmnopqrstuvwxyz{|}~"
	hexBoth = "0123456789abcdefABCDEF"
)

// P9.2: what is told by percent.

func TestPercent(t *testing.T) {
	for s, want := range map[string]string{
		"": "", "a": "a", "/": "/", "/a/b?c=d&e": "/a/b?c=d&e", "A.b": "A.b", "!": "!", "~": "~", visible: visible,
		// Bytes that are unreserved.
		"%41": "A", "%5A": "Z", "%5a": "Z", "%61": "a", "%7A": "z", "%7a": "z", "%30": "0", "%39": "9", "%2D": "-", "%2d": "-", "%2E": ".", "%2e": ".", "%5F": "_", "%5f": "_", "%7E": "~", "%7e": "~",
		// Their neighbours, which are not.
		"%40": "%40", "%5B": "%5B", "%5b": "%5B", "%60": "%60", "%7B": "%7B", "%7b": "%7B", "%2F": "%2F", "%2f": "%2F", "%3A": "%3A", "%3a": "%3A", "%2C": "%2C", "%2c": "%2C", "%5E": "%5E", "%5e": "%5E", "%7D": "%7D", "%7d": "%7D", "%7F": "%7F", "%7f": "%7F",
		// Bytes that may not stand in s by themselves, or have a sense there.
		"%00": "%00", "%0a": "%0A", "%0D%0A": "%0D%0A", "%20": "%20", "%21": "%21", "%23": "%23", "%3f": "%3F", "%3F": "%3F", "%26": "%26", "%80": "%80", "%c3%a9": "%C3%A9", "%Ff": "%FF", "%fF": "%FF", "%ff": "%FF", "%aA": "%AA", "%Aa": "%AA",
		// What is told stays told: it is read once.
		"%25": "%25", "%2541": "%2541", "%252e": "%252e", "%25%34%31": "%2541", "%2525": "%2525", "%25%32%35": "%2525", "%25%41": "%25A", "%25%2f": "%25%2F",
		// Among other bytes.
		"a%41": "aA", "%41a": "Aa", "%4141": "A41", "%41%42": "AB", "a%2Fb%2fc": "a%2Fb%2Fc", "/%7ec?%2f": "/~c?%2F", "%2e%2E/": "../", "%2f%2F%61%2f": "%2F%2Fa%2F", "4%314%34": "4144", "?%3d=%3D": "?%3D=%3D",
		// Small letters stay so elsewhere.
		"%2fabcdef%c0": "%2Fabcdef%C0", "abcdef": "abcdef",
	} {
		checkPercent(t, s, want)
		if !checkPercentByForm(t, s) {
			t.Error("wrong by its form:", s)
		}
	}
}

func TestPercentOfWrongTexts(t *testing.T) {
	checkNoPercent(t,
		// % at the end, and with one digit behind it.
		"%", "a%", "%%", "/%", "%41%", "%2f%", "%4", "%a", "%F", "a%4", "%41%4", "%2f%f", "/a?%4",
		// % with what are no digits.
		"%%41", "%4%41", "%4%", "%g0", "%0g", "%G0", "%0G", "%/0", "%0/", "%:0", "%0:", "%@0", "%0@", "%`0", "%0`", "%zz", "%4z", "%z4", "%+1", "%-1", "%1+", "%1-", "%0x", "%x0", "%0X", "%1_", "%_1", "%.1", "%1.", "%u0041", "%?a", "%a?", "a%/41", "%41%zz", "%zz%41",
		// Bytes that may not be.
		" ", "#", "\x7f", "\x80", "\xff", "\x00", "\t", "\n", "\r\n", "\x1f", "a b", " a", "a ", "a#", "#a", "/a?b#", "/a#b", "a\x7f", "\x7fa", "a\x80b", "caf\u00e9", "\u00e9", "\u212a", "\ufffd", "a\x00", "%41 ", " %41", "%41#", "#%41", "% 1", "%1 ", "%#1", "%1#", "%\x001", "%1\x7f", "%\uff11\uff11", "%4\xb1",
	)
}

func TestEachByteOfPercent(t *testing.T) {
	for _, c := range everyByte() {
		in := strings.Contains(visible, c)
		for _, s := range []string{c, "a" + c, c + "a", "/a?" + c + "b", "%41" + c, c + "%2f", strings.Repeat(c, 3)} {
			if c == "%" {
				checkNoPercent(t, s)
			} else if checkPercentByForm(t, s) != in {
				t.Errorf("%q is right: %v", s, !in)
			}
		}
	}
}

func TestEachSign(t *testing.T) {
	for _, first := range everyByte() {
		for _, second := range everyByte() {
			is := strings.Contains(hexBoth, first) && strings.Contains(hexBoth, second)
			for _, s := range []string{"%" + first + second, "4%" + first + second + "1", "/%2F%" + first + second + "%41"} {
				if checkPercentByForm(t, s) != is {
					t.Errorf("%q is right: %v", s, !is)
				}
			}
		}
	}
	kept := 0
	for c, plain := range everyByte() {
		upper := fmt.Sprintf("%%%02X", c)
		want := upper
		if strings.Contains(unreserved, plain) {
			want = plain
			kept++
		}
		checkPercent(t, upper, want)
		checkPercent(t, strings.ToLower(upper), want)
	}
	if kept != len(unreserved) {
		t.Error("not all unreserved bytes:", kept)
	}
}

func TestAllShortTextsByPercent(t *testing.T) {
	right := 0
	for _, c := range []struct {
		pieces []string
		most   int
	}{
		{[]string{"%", "2", "5", "4", "e", "F", "/", "~"}, 6},
		{[]string{"%", "4", "1", "g"}, 8},
		{[]string{"%", "%41", "%2f", "%25", "a", "?"}, 6},
	} {
		for _, s := range texts(c.pieces, c.most) {
			if checkPercentByForm(t, s) {
				right++
			}
		}
	}
	if right < 10000 {
		t.Error("too few of them are right:", right)
	}
	for _, s := range changed("/a%7e%2Fb?%41%c3") {
		checkPercentByForm(t, s)
	}
}

func TestLongTextsByPercent(t *testing.T) {
	for s, want := range map[string]string{"a": "a", "%41": "A", "%2f": "%2F", "%25": "%25", "/%7E": "/~", "%41b": "Ab"} {
		checkPercent(t, strings.Repeat(s, 300000), strings.Repeat(want, 300000))
		checkNoPercent(t, strings.Repeat(s, 300000)+"%", strings.Repeat(s, 300000)+"#", "%"+strings.Repeat(s, 300000)+"%4")
	}
}
