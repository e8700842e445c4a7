package target_test

import (
	"strings"
	"sync"
	"testing"

	"scullery/api"
	"scullery/target"
)

// P9.3: the URI of a target.

func TestNormal(t *testing.T) {
	for _, c := range []struct{ host, target, want string }{
		// The document's example.
		{"A.b:80", "/x/../%7ec?%2f", "http://a.b/~c?%2F"},
		// The host.
		{"x", "/", "http://x/"}, {"X", "/", "http://x/"}, {"x:", "/", "http://x/"}, {"x:80", "/", "http://x/"}, {"x:080", "/", "http://x:080/"}, {"X:8080", "/", "http://x:8080/"}, {"x:8", "/", "http://x:8/"}, {"-", "/", "http://-/"},
		// The target, empty or not.
		{"x", "", "http://x/"}, {"x", "?", "http://x/?"}, {"x", "?a", "http://x/?a"}, {"x", "??", "http://x/??"}, {"x", "/?", "http://x/?"}, {"x", "/a", "http://x/a"}, {"x", "/A", "http://x/A"}, {"x", "//", "http://x//"}, {"x", "//y/a", "http://x//y/a"}, {"x", "/a?b?c", "http://x/a?b?c"}, {"X", "/A?B", "http://x/A?B"},
		{"x", "/*", "http://x/*"}, {"x", "/http://y/", "http://x/http://y/"}, {"x", "?http://y/", "http://x/?http://y/"}, {"x", "/a:80", "http://x/a:80"},
		// Dots, ahead of ? alone.
		{"x", "/.", "http://x/"}, {"x", "/..", "http://x/"}, {"x", "/a/../b/./c", "http://x/b/c"}, {"x", "/a/..?b", "http://x/?b"}, {"x", "/..?..", "http://x/?.."}, {"x", "/a/.?/./", "http://x/a/?/./"}, {"x", "/?/../", "http://x/?/../"}, {"x", "/a?/../b", "http://x/a?/../b"}, {"x", "?/../", "http://x/?/../"}, {"x", "/a/b?/../..", "http://x/a/b?/../.."}, {"x", "/a/../?/b/..", "http://x/?/b/.."}, {"x", "/a?b/.", "http://x/a?b/."},
		{"x", "/../../..", "http://x/"}, {"x", "//..", "http://x/"}, {"x", "//../a", "http://x/a"}, {"x", "/..//a", "http://x//a"}, {"x", "/.../.a", "http://x/.../.a"},
		// Percent, in the path and behind it.
		{"x", "/%41?%42", "http://x/A?B"}, {"x", "/%2f?%2f", "http://x/%2F?%2F"}, {"x", "/%3f/..?a", "http://x/?a"}, {"x", "/%3fa", "http://x/%3Fa"}, {"x", "/a%3F/b?c", "http://x/a%3F/b?c"}, {"x", "/%25", "http://x/%25"}, {"x", "/%252e", "http://x/%252e"}, {"x", "/%23", "http://x/%23"}, {"x", "/%00%ff", "http://x/%00%FF"}, {"x", "?%3f", "http://x/?%3F"},
		// Dots that are told by percent, and slashes that are none.
		{"x", "/%2e", "http://x/"}, {"x", "/%2E/a", "http://x/a"}, {"x", "/%2e%2E/a", "http://x/a"}, {"x", "/a/.%2e", "http://x/"}, {"x", "/a/%2e.", "http://x/"}, {"x", "/a/%2e%2e/b", "http://x/b"}, {"x", "/a/b/%2E./", "http://x/a/"}, {"x", "/%2e%2e%2e", "http://x/..."}, {"x", "/a%2f..", "http://x/a%2F.."}, {"x", "/a%2f../..", "http://x/"}, {"x", "/a/%252e%252e", "http://x/a/%252e%252e"}, {"x", "?%2e%2e/", "http://x/?../"}, {"x", "/a?/%2e%2e", "http://x/a?/.."}, {"x", "/a/..%3f", "http://x/a/..%3F"},
	} {
		checkNormal(t, c.host, c.target, c.want)
		if !checkNormalByForm(t, c.host, c.target) {
			t.Error("wrong by its form:", c.host, c.target)
		}
	}
}

func TestTargetsThatHaveAHost(t *testing.T) {
	for s, want := range map[string]string{
		"http://y/": "http://y/", "http://y": "http://y/", "http://y?": "http://y/?", "http://y?a": "http://y/?a", "http://y/a": "http://y/a", "http://y/?a": "http://y/?a", "http://y//": "http://y//",
		"HTTP://y/": "http://y/", "HTTP://Y.z:": "http://y.z/", "Http://y/": "http://y/", "hTtP://y/": "http://y/", "httP://y": "http://y/", "HTTP://Y?A": "http://y/?A",
		"http://y:80/": "http://y/", "http://y:80": "http://y/", "http://y:80?a": "http://y/?a", "http://y:?a": "http://y/?a", "http://y:8/a": "http://y:8/a", "http://y:080": "http://y:080/", "http://Y.Z:12345?q": "http://y.z:12345/?q",
		"http://y?q=/../": "http://y/?q=/../", "http://y/a/..?q": "http://y/?q", "http://y/..": "http://y/", "http://y/%2e%2e/%7e": "http://y/~", "http://y/../../a": "http://y/a", "http://y?/": "http://y/?/", "http://y/a?b/c?d": "http://y/a?b/c?d",
		"http://y/http://z/": "http://y/http://z/", "http://y?http://z/": "http://y/?http://z/", "http://y//z": "http://y//z", "http://y/z:80": "http://y/z:80", "http://http/": "http://http/", "http://http:80/": "http://http/", "http://http://y/": "http://http//y/", "http://http:": "http://http/", "http://a.b-c/": "http://a.b-c/", "http://../..": "http://../", "http://.": "http://./",
	} {
		// The other host is not asked for.
		for _, host := range []string{"", "x", "X:8080", "y", "wrong host", "x:123456", "x:1:2", "\xff", "#"} {
			checkNormal(t, host, s, want)
			if !checkNormalByForm(t, host, s) {
				t.Error("wrong by its form:", host, s)
			}
		}
	}
	checkNotNormal(t, "x",
		// Without a host.
		"http://", "http:///", "http:///a", "http://?", "http://?a", "http:///?a", "http:////y/", "HTTP://", "HTTP:///", "http://:", "http://:80", "http://:80/", "http://:8?a",
		// With another that is none.
		"http://y z/", "http://y_/", "http://y:a/", "http://y:123456/", "http://y:1:2", "http://y:80:80/", "http://u@y/", "http://u:p@y:80/", "http://[::1]/", "http://%79/", "http://y%2e/", "http://y#", "http://y#/", "http://y\\/", "http://y\x00", "http://y\x7f/", "http://y\x80?", "http:// /", "http://*", "http://y,z", "http://y:80 /", "http://y&?a",
		// With what is wrong behind it.
		"http://y/%", "http://y/%4", "http://y/%zz", "http://y?%", "http://y?%2", "http://y/#", "http://y/a?b#", "http://y?a#b", "http://y/ ", "http://y? ", "http://y/\x7f", "http://y/\xff", "http://y/a\n",
	)
}

func TestTargetsThatAreNone(t *testing.T) {
	for _, host := range []string{"x", "A.b:80", "x:8080", "", "wrong host"} {
		checkNotNormal(t, host,
			// Those that begin with neither / nor ?.
			"*", "a", "a/", "a/b", "a?", "a?b", ".", "..", "./", "../a", "%2f", "%2Fa", "%3f", "%3Fa", "%41", "%", ":", "-", "\\", "\\/", "&a", "!", "~", "0/", "@/", ".?", ">a", "x", "x/", "x:80", "x:80/",
			// Those of another scheme, and nearly of that one.
			"https://y/", "HTTPS://y/", "ftp://y/", "http", "http:", "http:/", "http:/y", "http:y/", "http//y/", "http:\\\\y", "http:/%2fy/", "ttp://y/", "xhttp://y/", "hhttp://y/", "://y/", "h", "HTTP:", "HTTP:/", "http%3a//y/", "%68ttp://y/", "httq://y/", "http;//y/", "http:0/y/", "\u212attp://y/", "mailto:y", "HTTP%3A//y/", "http\x1a//y/", "http:\x0f/y/",
			// Those with bytes that may not be.
			" ", "#", "/#", "/a#", "/a?b#", "?#", "/ ", "/a b", " /", "/\x7f", "/\x80", "/\xff", "/\x00", "/\t", "/\n", "?\n", "/a\r\n", "/caf\u00e9", "?\u00e9", "\x00", "\x7f", "\xff", "\u00e9/", "# ", "#/", " http://y/", "\thttp://y/", "?a b", "\x2e/", "\xaf", "\xbf", "\xaf/a", "\xbf?a",
			// Those with a % that tells no byte.
			"/%", "/%4", "/%zz", "/%+1", "/a%", "/a%2", "?%", "?%4", "?%4z", "/%%41", "/%4%41", "/%41%", "/a?%", "/a?b%2", "/%u0041", "/../%", "/%/..", "/a/%4/..", "/..?%",
		)
	}
	// A wrong host with a right target, and with a wrong one.
	for _, host := range []string{"", ":", ":80", "x:a", "x:1:2", "x:123456", "x y", "x/", "x?", "x_", "%41", "\xff", "http://x", "caf\u00e9", "x#"} {
		checkNotNormal(t, host, "", "/", "/a", "?a", "/a/../b?c", "/%41", "a", "*", "/%", "/#", "https://y/", "http://", "http://y z/", "http://y/%")
	}
}

func TestEachByteOfTargets(t *testing.T) {
	for _, c := range everyByte() {
		for _, s := range []string{c, c + "/", c + "a", "/" + c, "/a" + c + "b", "?" + c, "/../" + c + "?" + c, "http://y" + c, "http://" + c, "http://y" + c + "z/a", "http://y:" + c, "http:" + c + "/y/", c + "ttp://y/", "h" + c + "tp://y", "ht" + c + "p://y", "htt" + c + "://y/", "http" + c + "//y/", "http:/" + c + "y/"} {
			checkNormalByForm(t, "X", s)
		}
		for _, host := range []string{c, "a" + c, c + "b", "a:" + c, "a:8" + c, c + ":80"} {
			checkNormalByForm(t, host, "/a/..")
		}
	}
}

func TestTargetsWithOneChange(t *testing.T) {
	for _, sample := range []string{"/a/../%7eb?%2f", "HTTP://Ab.c:80/a/./..?q", "http://y?a", "?%41/.."} {
		right, wrong := 0, 0
		for _, s := range changed(sample) {
			if checkNormalByForm(t, "X.y:80", s) {
				right++
			} else {
				wrong++
			}
		}
		if right < 500 || wrong < 500 {
			t.Error("one side only:", sample, right, wrong)
		}
	}
}

func TestAllShortTargets(t *testing.T) {
	right := 0
	for _, c := range []struct {
		pieces []string
		most   int
		ahead  []string
	}{
		{[]string{"/", ".", "?", "a", "%2e", "%2F"}, 6, []string{"", "http://y"}},
		{[]string{"http://", "HTTP://", "Y", ":", "80", "/", "?", "%41"}, 5, []string{""}},
		{[]string{"/..", "/%2E", "/", "/a", "?", "%"}, 6, []string{"", "/b", "http://Y:80"}},
		{[]string{"h", "T", "p", ":", "/", "y"}, 4, []string{"", "http:/", "HTtp"}},
	} {
		for _, s := range texts(c.pieces, c.most) {
			for _, ahead := range c.ahead {
				if checkNormalByForm(t, "A.b:80", ahead+s) {
					right++
				}
			}
		}
	}
	if right < 10000 {
		t.Error("too few of them are right:", right)
	}
}

func TestAllShortHostsOfTargets(t *testing.T) {
	for _, host := range texts([]string{"a", "B", "8", "0", ":", ".", "_"}, 4) {
		for _, s := range []string{"", "/", "?a", "/b/..", "a", "/%", "HTTP://y", "http://" + host, "http://" + host + "/", "http://" + host + "?", "http://" + host + "//..", "https://" + host} {
			checkNormalByForm(t, host, s)
		}
	}
}

func TestLongTargets(t *testing.T) {
	const many = 200000
	long := strings.Repeat("a/%41/../", many)
	checkNormal(t, "X:80", "/"+long+"?"+long, "http://x/"+strings.Repeat("a/", many)+"?"+strings.Repeat("a/A/../", many))
	checkNormal(t, strings.Repeat("X", many), "", "http://"+strings.Repeat("x", many)+"/")
	checkNormal(t, "", "http://"+strings.Repeat("X", many), "http://"+strings.Repeat("x", many)+"/")
	checkNormal(t, "x", strings.Repeat("/http://y", many), "http://x"+strings.Repeat("/http://y", many))
	checkNotNormal(t, "x", "/"+long+"%", "/"+long+"#", long, "http://"+long+"%")
}

// P9.4: the theorem; checkNormalByForm has it for each URI of the tests above.

func TestURIsStayWhateverHostIsGiven(t *testing.T) {
	hosts := append(texts([]string{"a", "Z", ":", "8"}, 3), everyByte()...)
	for _, uri := range []string{"http://x/", "http://x:8080/", "http://a.b/~c?%2F", "http://x//", "http://x/a//b/?/../", "http://x:080/%25?", "http://-/...", "http://x/http://y/", "http://x/?http://Y:80/.."} {
		for _, host := range hosts {
			checkNormal(t, host, uri, uri)
		}
	}
}

// TestSpellingsOfTheSame has texts that tell the same target at the same host (P2).
func TestSpellingsOfTheSame(t *testing.T) {
	for _, host := range []string{"a.b", "A.b", "a.B:", "A.B:80"} {
		for _, path := range []string{"/~c/d", "/%7ec/d", "/%7Ec/%64", "/./~c/d", "/x/../~c/d", "/../~c/./d", "/~c/%2e/d", "/~c/x/.%2E/%64", "/%2e%2e/~c/x/y/../../d"} {
			for _, query := range []string{"?q%2F", "?q%2f", "?%71%2f", "?%71%2F"} {
				const want = "http://a.b/~c/d?q%2F"
				checkNormal(t, host, path+query, want)
				checkNormal(t, "", "http://"+host+path+query, want)
				checkNormal(t, "x:1", "HTTP://"+host+path+query, want)
			}
		}
	}
}

// R4 and R5: the same call answers the same again, beside calls from other goroutines too.

func TestCallsAtTheSameTime(t *testing.T) {
	path := strings.Repeat("/a/b/..", 100) + "/%2e./%7e"
	var group sync.WaitGroup
	for range 8 {
		group.Go(func() {
			for range 200 {
				host, hostError := target.Host("A.b:80")
				text, textError := target.Percent("%7e%2f")
				uri, uriError := target.Normal("A.b:80", path)
				_, refused := target.Normal("A.b:80", path+"%")
				dots := target.Dots(path)
				if host != "a.b" || hostError != api.OK || text != "~%2F" || textError != api.OK || uri != "http://a.b"+strings.Repeat("/a", 99)+"/~" || uriError != api.OK || refused != api.ErrForm || dots != strings.Repeat("/a", 100)+"/%2e./%7e" {
					t.Error("another answer beside other calls")
				}
			}
		})
	}
	group.Wait()
}
