package target_test

import (
	"strings"
	"testing"
)

// P9.2: dot segments.

func TestDots(t *testing.T) {
	for path, want := range map[string]string{
		// Without a slash ahead.
		"": "", "a": "a", ".": ".", "..": "..", "./": "./", "../": "../", "a/..": "a/..", "a/./b": "a/./b", "./a": "./a", "../a": "../a", "?": "?", "?/../": "?/../", "*": "*", "a/../../": "a/../../", " /..": " /..", "%2F..": "%2F..",
		// Without dot segments.
		"/": "/", "//": "//", "///": "///", "/a": "/a", "/a/": "/a/", "/a//": "/a//", "//a": "//a", "/a/b": "/a/b", "/a//b/": "/a//b/",
		// . at the start, in the middle and at the end.
		"/.": "/", "/./": "/", "/./a": "/a", "/./a/": "/a/", "/a/./b": "/a/b", "/a/.": "/a/", "/a/./": "/a/", "/a/b/.": "/a/b/", "/./.": "/", "/././": "/", "/././a": "/a", "/a/././b": "/a/b", "/a/./.": "/a/", "/./a/./b/.": "/a/b/",
		// .. at the start, in the middle and at the end.
		"/..": "/", "/../": "/", "/../a": "/a", "/../a/": "/a/", "/a/..": "/", "/a/../": "/", "/a/../b": "/b", "/a/b/..": "/a/", "/a/b/../": "/a/", "/a/b/../c": "/a/c", "/a/b/../../c": "/c", "/a/b/../..": "/", "/a/b/../../": "/", "/a/../b/../c": "/c", "/a/../b/..": "/",
		// More .. than segments.
		"/../..": "/", "/../../": "/", "/../../a": "/a", "/a/../..": "/", "/a/../../": "/", "/a/../../b": "/b", "/a/../../b/": "/b/", "/a/b/../../../c": "/c", "/a/../../../../b/c": "/b/c", "/../a/../../b": "/b",
		// Both.
		"/./..": "/", "/.././": "/", "/./../a": "/a", "/.././a": "/a", "/a/./..": "/", "/a/../.": "/", "/a/./../b": "/b", "/a/.././b": "/b", "/a/b/./..": "/a/", "/a/b/../.": "/a/", "/a/./b/../c/./": "/a/c/", "/./../.": "/", "/.././..": "/",
		// Empty segments are segments.
		"//.": "//", "//./": "//", "//..": "/", "//../": "/", "//../a": "/a", "///..": "//", "///../": "//", "///../a": "//a", "//../..": "/", "//../../a": "/a", "/a//..": "/a/", "/a//../b": "/a/b", "/a//../..": "/", "/a//../../b": "/b", "/..//": "//", "/..//a": "//a", "/.//": "//", "/.//a": "//a", "/./..//": "//", "/a/..//b": "//b", "//a/..": "//", "//a/../": "//", "//./..": "/", "//.//..": "//",
		// Segments that only begin or end with dots, or have more of them.
		"/...": "/...", "/.../": "/.../", "/....": "/....", "/.a": "/.a", "/..a": "/..a", "/a.": "/a.", "/a..": "/a..", "/.a/..": "/", "/..a/..": "/", "/.../..": "/", "/a./../b": "/b", "/a../.": "/a../", "/.../.": "/.../", "/..a/.b/c./d..": "/..a/.b/c./d..", "/. ": "/. ", "/.. ": "/.. ", "/ ./": "/ ./", "/.?": "/.?", "/..?/": "/..?/", "/a/..?b": "/a/..?b", "/a?/..": "/", "/a/../?b": "/?b", "/..;": "/..;", "/.%2e": "/.%2e", "/%2e": "/%2e", "/%2e%2e/": "/%2e%2e/", "/\u2025/a": "/\u2025/a", "/\\..": "/\\..", "/..\\": "/..\\", "/a/..\x00": "/a/..\x00",
		// What a path has as bytes stays.
		"/A/%7ec": "/A/%7ec", "/\xff/../\xfe": "/\xfe", "/\x00/./ \n": "/\x00/ \n", "/caf\u00e9/../b": "/b", "/#/..": "/",
	} {
		checkDots(t, path, want)
		checkDotsByWords(t, path)
	}
}

func TestAllShortPaths(t *testing.T) {
	for _, c := range []struct {
		pieces []string
		most   int
	}{
		{[]string{"/", ".", "a"}, 10},
		{[]string{"/.", "/..", "/", "/a", "/b"}, 7},
		{[]string{"/..", "/./", "/a", "/...", ".", "?"}, 6},
	} {
		for _, s := range texts(c.pieces, c.most) {
			checkDotsByWords(t, s)
			checkDotsByWords(t, "/"+s)
		}
	}
	for _, path := range []string{"/a/./b/../c", "/../a/.", "//a/..", "a/../b"} {
		for _, s := range changed(path) {
			checkDotsByWords(t, s)
		}
	}
}

// TestSegmentsThatAreAllDifferent shows one segment in the place of another.
func TestSegmentsThatAreAllDifferent(t *testing.T) {
	for _, path := range texts([]string{"/x", "/.", "/.."}, 8) {
		for letter := 'a'; strings.Contains(path, "x"); letter++ {
			path = strings.Replace(path, "x", string(letter), 1)
		}
		checkDotsByWords(t, path)
		checkDotsByWords(t, path+"/")
	}
}

func TestLongPaths(t *testing.T) {
	const many = 300000
	rise := strings.Repeat("/..", many)
	for path, want := range map[string]string{
		strings.Repeat("/", many):                                  strings.Repeat("/", many),
		strings.Repeat("/a", many):                                 strings.Repeat("/a", many),
		strings.Repeat("/.", many):                                 "/",
		strings.Repeat("/a", many) + "/../b":                       strings.Repeat("/a", many-1) + "/b",
		rise:                                                       "/",
		rise + "/a":                                                "/a",
		strings.Repeat("/a", many) + rise:                          "/",
		strings.Repeat("/a", many+1) + rise:                        "/a/",
		strings.Repeat("/a", many) + rise + "/b":                   "/b",
		strings.Repeat("/a/..", many):                              "/",
		strings.Repeat("/a", many) + strings.Repeat("/b/..", many): strings.Repeat("/a", many) + "/",
		strings.Repeat("/a", many) + strings.Repeat("/../b", many): strings.Repeat("/a", many-1) + "/b",
		strings.Repeat("/a/./b/..", many):                          strings.Repeat("/a", many) + "/",
		"/" + strings.Repeat(".", many):                            "/" + strings.Repeat(".", many),
		strings.Repeat("a/../", many):                              strings.Repeat("a/../", many),
	} {
		checkDots(t, path, want)
	}
}
