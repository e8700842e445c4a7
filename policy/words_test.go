package policy_test

import (
	"fmt"
	"math"
	"math/big"
	"regexp"
	"slices"
	"strings"
	"testing"

	"scullery/api"
	"scullery/date"
	"scullery/legacy"
	"scullery/policy"
)

const (
	end  = 1 << 40
	day  = 86400
	many = 200000
)

// The seconds of the dates that these tests have. All other texts of theirs are no dates.
const (
	noon      = 784123200
	lastDate  = 253402300799
	zeroText  = "Thu, 01 Jan 1970 00:00:00 GMT"
	noonText  = "Sun, 06 Nov 1994 12:00:00 GMT"
	aheadText = "Sun, 06 Nov 1994 11:59:59 GMT"
	afterText = "Sun, 06 Nov 1994 12:00:01 GMT"
	lastText  = "Fri, 31 Dec 9999 23:59:59 GMT"
)

func secondsOf(text string) (int64, bool) {
	seconds, is := map[string]int64{
		zeroText: 0, "Thursday, 01-Jan-70 00:00:00 GMT": 0, "Thu Jan  1 00:00:00 1970": 0,
		"Thu, 01 Jan 1970 00:00:10 GMT": 10, "Thursday, 01-Jan-70 00:00:10 GMT": 10, "Thu Jan  1 00:00:10 1970": 10,
		"Sun, 06 Nov 1994 11:58:21 GMT": noon - 99, "Sunday, 06-Nov-94 11:58:21 GMT": noon - 99, "Sun Nov  6 11:58:21 1994": noon - 99,
		aheadText: noon - 1, "Sunday, 06-Nov-94 11:59:59 GMT": noon - 1, "Sun Nov  6 11:59:59 1994": noon - 1,
		noonText: noon, "Sunday, 06-Nov-94 12:00:00 GMT": noon, "Sun Nov  6 12:00:00 1994": noon,
		afterText: noon + 1, "Sunday, 06-Nov-94 12:00:01 GMT": noon + 1, "Sun Nov  6 12:00:01 1994": noon + 1,
		lastText: lastDate, "Fri Dec 31 23:59:59 9999": lastDate,
	}[text]
	return seconds, is
}

func dates() []string {
	return []string{
		zeroText, "Thursday, 01-Jan-70 00:00:00 GMT", "Thu Jan  1 00:00:00 1970",
		"Thu, 01 Jan 1970 00:00:10 GMT", "Thursday, 01-Jan-70 00:00:10 GMT", "Thu Jan  1 00:00:10 1970",
		"Sun, 06 Nov 1994 11:58:21 GMT", "Sunday, 06-Nov-94 11:58:21 GMT", "Sun Nov  6 11:58:21 1994",
		aheadText, "Sunday, 06-Nov-94 11:59:59 GMT", "Sun Nov  6 11:59:59 1994",
		noonText, "Sunday, 06-Nov-94 12:00:00 GMT", "Sun Nov  6 12:00:00 1994",
		afterText, "Sunday, 06-Nov-94 12:00:01 GMT", "Sun Nov  6 12:00:01 1994",
		lastText, "Fri Dec 31 23:59:59 9999",
	}
}

func noDates() []string {
	return []string{
		"", " ", "0", "-1", "784123200", "x", "Sun", "GMT", noonText + " ", " " + noonText, noonText + ", " + noonText, noonText + ", ", "Mon, 06 Nov 1994 12:00:00 GMT", "sun, 06 Nov 1994 12:00:00 GMT",
		"Sun, 6 Nov 1994 12:00:00 GMT", "Sun, 06 Nov 1994 12:00:00", "Sun, 06 Nov 1994 12:00:60 GMT", "Sun, 06 Nov 1994 24:00:00 GMT", "Sunday, 06 Nov 1994 12:00:00 GMT", "Sun Nov 06 12:00:00 1994",
		"Wed, 31 Dec 1969 23:59:59 GMT", "Sat, 01 Jan 10000 00:00:00 GMT", "1994-11-06T12:00:00Z",
	}
}

func TestTheDatesOfTheseTests(t *testing.T) {
	for _, text := range dates() {
		want, is := secondsOf(text)
		if seconds, e := date.Parse(text); !is || seconds != want || e != api.OK {
			t.Errorf("%s: %d, %d; not %d", text, seconds, e, want)
		}
	}
	for _, text := range noDates() {
		if _, e := date.Parse(text); e == api.OK {
			t.Errorf("%s: a date", text)
		}
	}
}

// edges are times at which the words of the document change, and those beside them.
func edges() []int64 {
	l := []int64{math.MinInt64, math.MaxInt64}
	for _, n := range []int64{-end, 0, 10, day, api.Top, noon - 99, noon, noon + api.Top, lastDate - api.Top, lastDate, end} {
		l = append(l, n-1, n, n+1)
	}
	slices.Sort(l)
	return slices.Compact(l)
}

func field(name, value string) api.Field { return api.Field{Name: name, Value: value} }

func control(value string) api.Field { return field("cache-control", value) }

func targeted(value string) api.Field { return field("cdn-cache-control", value) }

func dated(value string) api.Field { return field("date", value) }

func expires(value string) api.Field { return field("expires", value) }

func modified(value string) api.Field { return field("last-modified", value) }

func authorized(value string) api.Field { return field("authorization", value) }

func fields(l ...api.Field) []api.Field { return l }

// others have names that tell nothing here, but values that would.
func others(value string) []api.Field {
	var l []api.Field
	for _, name := range []string{"", "x", "Cache-Control", "CACHE-CONTROL", "cache-contro", "cache-controls", " cache-control", "CDN-Cache-Control", "surrogate-control", "pragma", "Expires", "expire", "expires ", "Last-Modified", "last-modifie", "modified", "if-modified-since", "Date", "dates", "x-date", "Authorization", "authorizations", "proxy-authorization", "www-authenticate", "set-cookie", "cookie", "age", "etag", "vary", "range"} {
		l = append(l, field(name, value))
	}
	return l
}

func get(l ...api.Field) api.Request { return api.Request{Method: "GET", Target: "/", Fields: l} }

func answer(status int, l ...api.Field) api.Response { return api.Response{Status: status, Fields: l} }

// byDefault are the statuses that are cacheable by default.
func byDefault() []int { return []int{200, 203, 204, 300, 301, 308, 404, 405, 410, 414, 501} }

func none() legacy.Rules {
	return legacy.Rules{MaxAge: -1, SMaxAge: -1, MaxStale: -1, MinFresh: -1, StaleIfError: -1}
}

func boolNames() []string {
	return []string{"no-store", "no-cache", "private", "public", "must-revalidate", "proxy-revalidate", "immutable", "only-if-cached"}
}

func numberNames() []string {
	return []string{"max-age", "s-maxage", "max-stale", "min-fresh", "stale-if-error"}
}

func boolOf(r *legacy.Rules, name string) *bool {
	return map[string]*bool{"no-store": &r.NoStore, "no-cache": &r.NoCache, "private": &r.Private, "public": &r.Public, "must-revalidate": &r.MustRevalidate, "proxy-revalidate": &r.ProxyRevalidate, "immutable": &r.Immutable, "only-if-cached": &r.OnlyIfCached}[name]
}

func numberOf(r *legacy.Rules, name string) *int {
	return map[string]*int{"max-age": &r.MaxAge, "s-maxage": &r.SMaxAge, "max-stale": &r.MaxStale, "min-fresh": &r.MinFresh, "stale-if-error": &r.StaleIfError}[name]
}

func limited(digits string) int {
	n, _ := new(big.Int).SetString(digits, 10)
	return int(within(n, 0, api.Top).Int64())
}

// The directives and entries that these tests have. All other parts of theirs are none.
var (
	directiveForm = regexp.MustCompile(`^([A-Za-z-]+)(=("?)([0-9a-z]*)("?))?$`)
	entryForm     = regexp.MustCompile(`^([a-z*][a-z0-9_.*-]*)(=(\?[01]|-?[0-9]{1,15}|[a-z]+|\([0-9 ]*\)))?$`)
	digitsForm    = regexp.MustCompile(`^[0-9]+$`)
)

// oldRules are the rules of directives.
func oldRules(text string) legacy.Rules {
	r := none()
	told := map[string]bool{}
	for part := range strings.SplitSeq(text, ",") {
		m := directiveForm.FindStringSubmatch(strings.Trim(part, " \t"))
		if m == nil || m[3] != m[5] || m[2] == "=" || told[strings.ToLower(m[1])] {
			continue
		}
		name := strings.ToLower(m[1])
		told[name] = true
		if b := boolOf(&r, name); b != nil {
			*b = true
		}
		n := numberOf(&r, name)
		switch {
		case n == nil:
		case digitsForm.MatchString(m[4]):
			*n = limited(m[4])
		case name == "max-stale" && m[2] == "":
			*n = api.Top
		default:
			*n = 0
		}
	}
	return r
}

// targetedRules are the rules of a dictionary, and whether it is effective.
func targetedRules(text string) (legacy.Rules, bool) {
	values := map[string]string{}
	for part := range strings.SplitSeq(text, ",") {
		m := entryForm.FindStringSubmatch(strings.Trim(part, " \t"))
		if m == nil {
			return none(), false
		}
		values[m[1]] = m[2]
	}
	r := none()
	for name, value := range values {
		isTrue := value == "" || value == "=?1"
		if b := boolOf(&r, name); b != nil {
			*b = isTrue
		}
		n := numberOf(&r, name)
		switch {
		case n == nil:
		case name == "max-stale" && isTrue:
			*n = api.Top
		case strings.HasPrefix(value, "=") && digitsForm.MatchString(value[1:]):
			*n = limited(value[1:])
		}
	}
	return r, true
}

// valueByWords are the values of a name, joined; false if there are none.
func valueByWords(l []api.Field, name string) (string, bool) {
	var values []string
	for _, f := range l {
		if f.Name == name {
			values = append(values, f.Value)
		}
	}
	return strings.Join(values, ", "), values != nil
}

// rulesByWords are the rules of a response, and whether they are targeted.
func rulesByWords(l []api.Field) (legacy.Rules, bool) {
	if text, is := valueByWords(l, "cdn-cache-control"); is {
		if r, effective := targetedRules(text); effective {
			return r, true
		}
	}
	text, _ := valueByWords(l, "cache-control")
	return oldRules(text), false
}

func strictByWords(r legacy.Rules) bool {
	return r.MustRevalidate || r.ProxyRevalidate || r.SMaxAge >= 0
}

// storableByWords is Storable, made of the words.
func storableByWords(q api.Request, p api.Response) bool {
	text, _ := valueByWords(q.Fields, "cache-control")
	asked := oldRules(text)
	told, isTargeted := rulesByWords(p.Fields)
	_, isAuthorized := valueByWords(q.Fields, "authorization")
	_, hasExpires := valueByWords(p.Fields, "expires")
	return !slices.Contains([]bool{
		q.Method == "GET",
		p.Status >= 200,
		p.Status != 206,
		p.Status != 304,
		!asked.NoStore,
		!told.NoStore,
		!told.Private,
		!isAuthorized || strictByWords(told) || told.Public,
		isTargeted || told.Public || told.MaxAge >= 0 || told.SMaxAge >= 0 || hasExpires || slices.Contains(byDefault(), p.Status),
	}, false)
}

func bigOf(n int64) *big.Int { return big.NewInt(n) }

// within is n limited to a range.
func within(n *big.Int, least, most int64) *big.Int {
	switch {
	case n.Cmp(bigOf(least)) < 0:
		return bigOf(least)
	case n.Cmp(bigOf(most)) > 0:
		return bigOf(most)
	}
	return n
}

// dateOf are the seconds of the date in the field of that name; false if there is none.
func dateOf(l []api.Field, name string) (int64, bool) {
	text, is := valueByWords(l, name)
	if !is {
		return 0, false
	}
	return secondsOf(text)
}

// lifetimeByWords is Lifetime, made of the words.
func lifetimeByWords(p api.Response, got int64) int {
	r, isTargeted := rulesByWords(p.Fields)
	made, is := dateOf(p.Fields, "date")
	if !is {
		made = within(bigOf(got), 0, end).Int64()
	}
	expiry, isDate := dateOf(p.Fields, "expires")
	_, hasExpires := valueByWords(p.Fields, "expires")
	change, isChange := dateOf(p.Fields, "last-modified")
	switch {
	case r.SMaxAge >= 0:
		return r.SMaxAge
	case r.MaxAge >= 0:
		return r.MaxAge
	case isTargeted, hasExpires && !isDate:
		return 0
	case hasExpires:
		return int(within(new(big.Int).Sub(bigOf(expiry), bigOf(made)), 0, api.Top).Int64())
	case isChange && (r.Public || slices.Contains(byDefault(), p.Status)):
		passed := within(new(big.Int).Sub(bigOf(made), bigOf(change)), 0, end)
		return int(within(new(big.Int).Div(passed, bigOf(10)), 0, 86400).Int64())
	}
	return 0
}

// judgeByWords is Judge, made of the words: the answer of the first case that applies.
func judgeByWords(age, life int, r, q legacy.Rules) int {
	cases := []struct {
		applies bool
		answer  int
	}{
		{r.NoCache, policy.Stale},
		{r.Immutable && life > age, policy.Hit},
		{q.NoCache, policy.Asked},
		{q.MaxAge > -1 && q.MaxAge < age, policy.Asked},
		{q.MinFresh > -1 && q.MinFresh > life-age, policy.Asked},
		{life > age, policy.Hit},
		{q.MaxStale > -1 && q.MaxStale >= age-life && !strictByWords(r), policy.Hit},
		{true, policy.Stale},
	}
	for _, c := range cases {
		if c.applies {
			return c.answer
		}
	}
	panic("the last case applies")
}

// onErrorByWords is OnError, made of the words.
func onErrorByWords(age, life int, r legacy.Rules) bool {
	byNumber := r.StaleIfError > -1 && r.StaleIfError >= age-life && !r.MustRevalidate
	return !r.NoCache && (life > age || !strictByWords(r) || byNumber)
}

// brief returns x for a message, cut off where it is long.
func brief(x any) string { return fmt.Sprintf("%.400s", fmt.Sprintf("%+v", x)) }

func checkStorable(t *testing.T, want bool, q api.Request, p api.Response) {
	if got := policy.Storable(q, p); got != want {
		t.Helper()
		t.Errorf("Storable(%s, %s) = %t", brief(q), brief(p), got)
	}
}

func checkStorableByWords(t *testing.T, q api.Request, p api.Response) bool {
	t.Helper()
	want := storableByWords(q, p)
	checkStorable(t, want, q, p)
	return want
}

func checkLifetime(t *testing.T, want int, p api.Response, got int64) {
	if life := policy.Lifetime(p, got); life != want {
		t.Helper()
		t.Errorf("Lifetime(%s, %d) = %d; not %d", brief(p), got, life, want)
	}
}

func checkLifetimeByWords(t *testing.T, p api.Response, got int64) int {
	t.Helper()
	want := lifetimeByWords(p, got)
	checkLifetime(t, want, p, got)
	return want
}

func checkJudge(t *testing.T, want, age, life int, r, q legacy.Rules) {
	if got := policy.Judge(age, life, r, q); got != want {
		t.Helper()
		t.Errorf("Judge(%d, %d, %+v, %+v) = %d; not %d", age, life, r, q, got, want)
	}
}

func checkJudgeByWords(t *testing.T, age, life int, r, q legacy.Rules) int {
	t.Helper()
	want := judgeByWords(age, life, r, q)
	checkJudge(t, want, age, life, r, q)
	return want
}

func checkOnError(t *testing.T, want bool, age, life int, r legacy.Rules) {
	if got := policy.OnError(age, life, r); got != want {
		t.Helper()
		t.Errorf("OnError(%d, %d, %+v) = %t", age, life, r, got)
	}
}

func checkOnErrorByWords(t *testing.T, age, life int, r legacy.Rules) bool {
	t.Helper()
	want := onErrorByWords(age, life, r)
	checkOnError(t, want, age, life, r)
	return want
}

// eachList calls f with all lists of at most that many parts, the empty one among them.
func eachList[T any](parts []T, most int, f func([]T)) {
	var longer func(l []T)
	longer = func(l []T) {
		f(l)
		for _, part := range parts {
			if len(l) < most {
				longer(append(l[:len(l):len(l)], part))
			}
		}
	}
	longer(nil)
}
