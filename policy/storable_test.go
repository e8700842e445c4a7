package policy_test

import (
	"math"
	"slices"
	"strings"
	"testing"

	"scullery/api"
)

// P14.1: methods and statuses.

func TestMethods(t *testing.T) {
	for method, want := range map[string]bool{
		"GET": true, "": false, "get": false, "Get": false, "gET": false, "GEt": false, "HEAD": false, "POST": false, "PUT": false, "DELETE": false, "OPTIONS": false, "PATCH": false, "TRACE": false, "CONNECT": false,
		"GE": false, "GETS": false, "G": false, "GET ": false, " GET": false, "GET\x00": false, "XGET": false, "GETGET": false, "\xff": false, "*": false,
	} {
		for _, l := range [][]api.Field{nil, fields(control("public, max-age=5")), fields(targeted("max-age=5")), fields(expires(noonText))} {
			q := get()
			q.Method = method
			checkStorable(t, want, q, answer(200, l...))
			checkStorable(t, false, q, answer(206, l...))
			q.Target, q.Body = "http://x/", []byte("GET")
			checkStorable(t, want, q, api.Response{Status: 200, Fields: l, Body: []byte("x")})
		}
	}
}

func TestStatuses(t *testing.T) {
	explicit := [][]api.Field{
		fields(control("public")), fields(control("max-age=5")), fields(control("max-age=0")), fields(control("s-maxage=5")), fields(control("s-maxage=0")), fields(expires(noonText)), fields(expires("0")), fields(expires("")), fields(targeted("x")), fields(targeted("max-age=0")),
	}
	for status := -1000; status <= 2000; status++ {
		checkStorable(t, slices.Contains(byDefault(), status), get(), answer(status))
		checkStorable(t, slices.Contains(byDefault(), status), get(), answer(status, control("immutable")))
		for _, l := range explicit {
			checkStorable(t, status >= 200 && status != 206 && status != 304, get(), answer(status, l...))
		}
	}
	// One by one: those beside others, and far ones.
	for status, want := range map[int][2]bool{
		math.MinInt: {false, false}, math.MinInt + 200: {false, false}, math.MinInt32: {false, false}, -200: {false, false}, -1: {false, false}, 0: {false, false}, 1: {false, false}, 100: {false, false}, 101: {false, false}, 103: {false, false}, 199: {false, false},
		200: {true, true}, 201: {false, true}, 202: {false, true}, 203: {true, true}, 204: {true, true}, 205: {false, true}, 206: {false, false}, 207: {false, true}, 299: {false, true},
		300: {true, true}, 301: {true, true}, 302: {false, true}, 303: {false, true}, 304: {false, false}, 305: {false, true}, 307: {false, true}, 308: {true, true}, 309: {false, true},
		400: {false, true}, 403: {false, true}, 404: {true, true}, 405: {true, true}, 406: {false, true}, 409: {false, true}, 410: {true, true}, 411: {false, true}, 413: {false, true}, 414: {true, true}, 415: {false, true},
		500: {false, true}, 501: {true, true}, 502: {false, true}, 503: {false, true}, 504: {false, true}, 599: {false, true}, 999: {false, true}, 1000: {false, true}, 1 << 16: {false, true}, 200 + 1<<16: {false, true}, 200 + 1<<32: {false, true}, 206 + 1<<32: {false, true}, math.MaxInt: {false, true},
	} {
		checkStorable(t, want[0], get(), answer(status))
		checkStorable(t, want[1], get(), answer(status, control("max-age=5")))
	}
}

// P14.1: no-store and private.

func TestNoStore(t *testing.T) {
	for _, status := range []int{200, 302} {
		for value, want := range map[string]bool{
			"no-store": false, "NO-STORE": false, "no-store=0": false, `no-store="x"`: false, "x, no-store": false, "max-age=5, no-store": false, "no-store, public, max-age=5": false, "no-store, no-store": false,
			"": true, "no-stores": true, "no_store": true, "no-cache": true, "no-store=": true, "no-store x": true, "max-age=0": true, "only-if-cached": true, "max-stale": true, "min-fresh=5": true,
			// Private counts in the response alone.
			"private": true, "private, public": true, "no-store, private": false,
		} {
			checkStorable(t, want, get(control(value)), answer(status, control("max-age=5")))
			checkStorable(t, want, get(control(value)), answer(status, targeted("max-age=5")))
			checkStorable(t, want, get(control("x"), control(value)), answer(status, control("public")))
			checkStorable(t, want, get(control(value), authorized("x")), answer(status, control("public")))
			// A request has no targeted rules.
			checkStorable(t, want, get(control(value), targeted("max-age=5")), answer(status, control("public")))
		}
		checkStorable(t, true, get(targeted("no-store")), answer(status, control("public")))
		checkStorable(t, true, get(targeted("no-store"), control("x")), answer(status, control("public")))
		for value, want := range map[string]bool{
			"no-store": false, "NO-STORE": false, "no-store=0": false, "x, no-store": false, "no-store, public, max-age=5": false, "private": false, "Private": false, `private="x"`: false, "private=0": false, "private, public": false, "public, private": false, "private, no-store": false,
			"no-stores": true, "no-cache": true, "no-store=": true, "privat": true, "private=": true, "must-revalidate": true, "only-if-cached": true, "immutable": true,
		} {
			checkStorable(t, want, get(), answer(status, control("max-age=5, "+value)))
			checkStorable(t, want, get(), answer(status, control(value), expires(noonText), control("s-maxage=5")))
			checkStorable(t, want, get(control("private")), answer(status, control(value+", public")))
		}
		for value, want := range map[string]bool{
			"no-store": false, "no-store=?1": false, "max-age=5, no-store": false, "no-store=?0, no-store": false, "private": false, "private=?1": false, "public, private": false,
			"no-store=?0": true, "private=?0": true, "no-store, no-store=?0": true, "no-store=1": true, "private=x": true, "no-stores": true, "x": true,
		} {
			checkStorable(t, want, get(), answer(status, targeted(value)))
			checkStorable(t, want, get(), answer(status, control("no-store, private"), targeted(value)))
			checkStorable(t, want, get(), answer(status, control("max-age=5"), targeted(value), expires("0")))
		}
		// What is not effective has no say.
		for _, value := range []string{"", "No-Store", "no-store x", "no-store, =", "private, Private", ","} {
			checkStorable(t, true, get(), answer(status, control("max-age=5"), targeted(value)))
			checkStorable(t, false, get(), answer(status, control("max-age=5, private"), targeted(value)))
			checkStorable(t, status == 200, get(), answer(status, targeted(value)))
		}
	}
	for _, l := range [][]api.Field{others("no-store"), others("private"), others("x")} {
		checkStorable(t, true, get(l...), answer(200, l...))
		checkStorable(t, false, get(l...), answer(302, l...))
	}
}

// P14.1: authorization.

func TestAuthorization(t *testing.T) {
	for _, l := range [][]api.Field{
		fields(authorized("x")), fields(authorized("Basic eA==")), fields(authorized("")), fields(authorized(" ")), fields(authorized("x"), authorized("y")), fields(authorized(""), authorized("")), fields(field("x", "y"), authorized("x"), control("public")), fields(control("must-revalidate, s-maxage=5"), authorized("x")),
	} {
		for value, want := range map[string]bool{
			"": false, "max-age=5": false, "max-age=0": false, "immutable": false, "no-cache": false, "stale-if-error=5": false, "max-stale=5": false, "min-fresh=5": false, "only-if-cached": false, "s-maxage=": false, "must-revalidate=": false, "publi": false,
			"must-revalidate": true, "proxy-revalidate": true, "s-maxage=5": true, "s-maxage=0": true, "s-maxage": true, "s-maxage=x": true, "public": true, "PUBLIC": true, "Must-Revalidate=5": true, "max-age=5, public": true, "must-revalidate, proxy-revalidate, s-maxage=5, public": true,
		} {
			checkStorable(t, want, get(l...), answer(200, control(value)))
			checkStorable(t, want, get(l...), answer(404, control(value), expires(noonText)))
			checkStorable(t, want, get(l...), answer(302, control(value), expires(noonText)))
			checkStorable(t, want, get(l...), answer(302, control(value+", max-age=5")))
			checkStorable(t, false, get(l...), answer(200, control(value+", private")))
			checkStorable(t, false, get(slices.Concat(l, fields(control("no-store")))...), answer(200, control(value)))
			checkStorable(t, true, get(), answer(200, control(value)))
			checkStorable(t, true, get(others("x")...), answer(200, control(value)))
		}
		// Strict or not, the other promises count still.
		for _, value := range []string{"must-revalidate", "proxy-revalidate"} {
			checkStorable(t, false, get(l...), answer(302, control(value)))
			checkStorable(t, true, get(l...), answer(302, targeted(value)))
		}
		for value, want := range map[string]bool{
			"x": false, "max-age=5": false, "must-revalidate=?0": false, "proxy-revalidate=?0": false, "public=?0": false, "public=1": false, "s-maxage=-1": false, "s-maxage": false, "s-maxage=x": false, "s-maxage=?1": false, "max-stale": false, "immutable": false,
			"must-revalidate": true, "proxy-revalidate": true, "s-maxage=5": true, "s-maxage=0": true, "public": true,
		} {
			for _, status := range []int{200, 302} {
				checkStorable(t, want, get(l...), answer(status, targeted(value)))
				checkStorable(t, want, get(l...), answer(status, targeted(value), control("public, s-maxage=5, must-revalidate, proxy-revalidate")))
			}
		}
		// Fields of the response are none of the request.
		checkStorable(t, true, get(), answer(200, l...))
	}
}

// P14.1: what makes a response one to be stored.

func TestExplicitRules(t *testing.T) {
	for value, want := range map[string]bool{
		"": false, "x": false, "must-revalidate": false, "proxy-revalidate": false, "immutable": false, "no-cache": false, "only-if-cached": false, "max-stale": false, "max-stale=5": false, "min-fresh=5": false, "stale-if-error=5": false, "maxage=5": false, "max-age=": false, "max-age x": false, "Publi": false, "public x": false, "=public": false,
		"public": true, "public=0": true, "max-age=5": true, "max-age=0": true, "max-age": true, "max-age=x": true, `max-age="5"`: true, "MAX-AGE=5": true, "max-age=99999999999": true, "s-maxage=5": true, "s-maxage=0": true, "s-maxage": true, "public, max-age=5, s-maxage=5": true, "x, s-maxage=7": true,
	} {
		for _, status := range []int{201, 302, 307, 403, 500, 999, 1000} {
			checkStorable(t, want, get(), answer(status, control(value)))
			checkStorable(t, want, get(), answer(status, slices.Concat(others("public, max-age=5"), fields(control(value)), others(noonText))...))
			checkStorable(t, want, get(), answer(status, control(value), modified(noonText), dated(noonText)))
			checkStorable(t, true, get(), answer(status, control(value), expires("x")))
			checkStorable(t, true, get(), answer(status, control(value), targeted("x")))
			checkStorable(t, false, get(), answer(206, control(value)))
			checkStorable(t, false, get(), answer(304, control(value)))
			checkStorable(t, false, get(), answer(199, control(value)))
		}
		for _, status := range byDefault() {
			checkStorable(t, true, get(), answer(status, control(value)))
		}
	}
}

func TestExpiresIsEnough(t *testing.T) {
	for _, text := range slices.Concat(dates(), noDates()) {
		for _, status := range []int{200, 201, 302, 999} {
			checkStorable(t, true, get(), answer(status, expires(text)))
			checkStorable(t, true, get(), answer(status, expires(text), expires(text)))
			checkStorable(t, true, get(), answer(status, dated(text), expires(text), control("x")))
			checkStorable(t, status == 200, get(expires(text)), answer(status, modified(text), dated(text)))
			checkStorable(t, status == 200, get(), answer(status, others(text)...))
			checkStorable(t, false, get(), answer(status, expires(text), control("private")))
		}
		for _, status := range []int{100, 199, 206, 304} {
			checkStorable(t, false, get(), answer(status, expires(text)))
		}
	}
}

func TestTargetedRulesAreEnough(t *testing.T) {
	for value, want := range map[string]bool{
		"x": true, "x=?0": true, "max-age=5": true, "max-age=0": true, "max-age=-1": true, "public": true, "public=?0": true, "must-revalidate": true, "max-stale=1": true, "s-maxage=0": true, "a=(1 2), b": true,
		"": false, " ": false, "Max-Age=5": false, "max-age=": false, "max-age=5,": false, "max-age 5": false, "=": false, "public;": false,
	} {
		for _, status := range []int{201, 302, 500, 999, 1000} {
			checkStorable(t, want, get(), answer(status, targeted(value)))
			checkStorable(t, want, get(), answer(status, control("x"), targeted(value), modified(noonText)))
			checkStorable(t, true, get(), answer(status, control("public"), targeted(value)))
			checkStorable(t, false, get(), answer(status, targeted(value), targeted("")))
		}
		checkStorable(t, true, get(), answer(200, targeted(value)))
		checkStorable(t, false, get(), answer(206, targeted(value)))
	}
}

// P14.1, by the words.

func TestStorableByWords(t *testing.T) {
	stored := 0
	requests := [][]api.Field{
		nil, fields(control("no-store")), fields(control("private, max-age=5")), fields(authorized("x")), fields(authorized(""), control("No-Store, public")), fields(authorized("x"), control("x"), authorized("y")), fields(targeted("no-store"), expires("0")),
	}
	pool := fields(control("public"), control("max-age=0"), control("s-maxage=5"), control("private"), control("must-revalidate"), control("x"), control("Proxy-Revalidate, no-store"), targeted("x"), targeted("s-maxage=7, public=?0"), targeted("no-store"), targeted("private, must-revalidate"), targeted("="), expires("x"), modified(noonText), authorized("x"))
	eachList(pool, 3, func(l []api.Field) {
		for _, status := range []int{199, 200, 206, 302, 304, 501} {
			for _, request := range requests {
				for _, method := range []string{"GET", "HEAD"} {
					q := api.Request{Method: method, Fields: request}
					if checkStorableByWords(t, q, answer(status, l...)) {
						stored++
					}
				}
			}
		}
	})
	if stored < 10000 {
		t.Error("too few of them are stored:", stored)
	}
}

func TestStorableOfLongFields(t *testing.T) {
	long := strings.Repeat("x, ", many)
	checkStorable(t, true, get(control(long)), answer(200, control(long)))
	checkStorable(t, false, get(control(long+"no-store")), answer(200, control(long)))
	checkStorable(t, false, get(control(long)), answer(200, control(long+"private")))
	checkStorable(t, true, get(authorized(long)), answer(302, control(long+"s-maxage=5")))
	checkStorable(t, false, get(authorized(long)), answer(302, control(long+"max-age=5")))
	checkStorable(t, true, get(), answer(302, targeted(long+"x")))
	checkStorable(t, false, get(), answer(302, targeted(long)))
	checkStorable(t, true, get(), answer(302, control("max-age="+strings.Repeat("9", many))))
	l := slices.Repeat(fields(control("x"), authorized("y")), many/10)
	checkStorable(t, false, get(l...), answer(200, l...))
	checkStorable(t, true, get(l...), answer(302, append(l, control("public"))...))
}
