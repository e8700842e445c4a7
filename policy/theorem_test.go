package policy_test

import (
	"math"
	"slices"
	"sync"
	"testing"

	"scullery/api"
	"scullery/legacy"
	"scullery/modern"
	"scullery/policy"
)

// P14.5: the theorem.

func TestTargetedRulesAreNotChanged(t *testing.T) {
	changes := slices.Concat(
		fields(control("x"), control("public"), control("private"), control("no-store, max-age=9"), control("s-maxage=9, must-revalidate"), control("max-age=0"), control("no-cache")),
		fields(expires(lastText), expires("Sun Nov  6 12:00:01 1994"), expires("x"), expires(""), modified(zeroText), modified(noonText), modified("x")),
	)
	requests := [][]api.Field{nil, fields(authorized("x")), fields(control("no-store"))}
	for _, value := range []string{"x", "max-age=5", "max-age=0", "s-maxage=7, max-age=5", "public", "private, max-age=5", "no-store=?1", "must-revalidate, max-stale", "proxy-revalidate, public=?0", "max-age=x", "no-cache, immutable"} {
		for _, status := range []int{200, 206, 302, 404, 999} {
			for _, date := range [][]api.Field{nil, fields(dated(noonText)), fields(dated("x"))} {
				plain := answer(status, append(fields(targeted(value)), date...)...)
				for _, got := range []int64{math.MinInt64, 5, noon, math.MaxInt64} {
					life := policy.Lifetime(plain, got)
					eachList(changes, 2, func(l []api.Field) {
						checkLifetime(t, life, answer(status, slices.Concat(l, plain.Fields)...), got)
						checkLifetime(t, life, answer(status, slices.Concat(plain.Fields, l)...), got)
					})
				}
				for _, request := range requests {
					stored := policy.Storable(get(request...), plain)
					eachList(changes, 2, func(l []api.Field) {
						checkStorable(t, stored, get(request...), answer(status, slices.Concat(l, plain.Fields)...))
						checkStorable(t, stored, get(request...), answer(status, slices.Concat(plain.Fields, l)...))
					})
				}
			}
		}
	}
}

// TestWhatIsNotEffectiveChangesNothing has the other side: without effective rules, the response is as without the field.
func TestWhatIsNotEffectiveChangesNothing(t *testing.T) {
	pool := fields(control("max-age=5"), control("private"), control("public"), expires("Sun Nov  6 12:00:01 1994"), modified("Sun Nov  6 11:58:21 1994"), dated(noonText))
	for _, value := range []string{"", " ", "=", "Max-Age=9", "max-age=9,", "no-store x", "private;", "max-age="} {
		if _, is := modern.Parse(value); is {
			t.Errorf("%q: effective", value)
		}
		eachList(pool, 3, func(l []api.Field) {
			for _, status := range []int{200, 302} {
				plain, more := answer(status, l...), answer(status, append(l[:len(l):len(l)], targeted(value))...)
				checkLifetime(t, policy.Lifetime(plain, noon+5), more, noon+5)
				checkStorable(t, policy.Storable(get(), plain), get(), more)
				checkStorable(t, policy.Storable(get(authorized("x")), plain), get(authorized("x")), more)
			}
		})
	}
}

func TestAHitRemainsAHit(t *testing.T) {
	seconds := []int{0, 1, 2, 3, 4, 10, api.Top - 1, api.Top}
	hits := 0
	eachRules([]string{"no-cache", "immutable", "must-revalidate"}, []string{"s-maxage"}, []int{-1, 0}, func(r legacy.Rules) {
		eachRules([]string{"no-cache"}, []string{"max-age", "min-fresh", "max-stale"}, []int{-1, 0, 2, api.Top}, func(q legacy.Rules) {
			for i, age := range seconds {
				for j, life := range seconds {
					if policy.Judge(age, life, r, q) != policy.Hit {
						continue
					}
					hits++
					for _, younger := range seconds[:i] {
						checkJudge(t, policy.Hit, younger, life, r, q)
					}
					for _, longer := range seconds[j+1:] {
						checkJudge(t, policy.Hit, age, longer, r, q)
					}
				}
			}
		})
	})
	if hits < 10000 {
		t.Error("too few are hits:", hits)
	}
}

// P4: what is stored, and is fresh, is a hit.

func TestWhatIsStoredAndFreshIsAHit(t *testing.T) {
	for _, c := range []struct {
		l    []api.Field
		life int
	}{
		{fields(control("max-age=60")), 60}, {fields(control("s-maxage=5, max-age=60")), 5}, {fields(targeted("max-age=7"), control("no-store")), 7}, {fields(expires("Sun Nov  6 12:00:01 1994")), 1}, {fields(modified("Sun Nov  6 11:58:21 1994"), dated(afterText)), 10},
	} {
		p := answer(200, c.l...)
		r, _ := modern.Choose(c.l)
		checkStorable(t, true, get(), p)
		checkLifetime(t, c.life, p, noon)
		checkJudge(t, policy.Hit, c.life-1, policy.Lifetime(p, noon), r, legacy.None())
		checkJudge(t, policy.Stale, c.life, policy.Lifetime(p, noon), r, legacy.None())
	}
}

// R3: arguments stay as they are.

func TestArgumentsStay(t *testing.T) {
	asked := fields(control("max-stale=5"), authorized("x"), field("", "y"), field("spare", "z"))
	told := fields(control("x"), targeted("="), expires(afterText), dated(noonText), modified(zeroText), field("spare", "z"))
	q, p := get(asked[:3]...), answer(200, told[:5]...)
	q.Body, p.Body = []byte("abc"), []byte("def")
	wasAsked, wasTold := slices.Clone(asked), slices.Clone(told)
	checkStorable(t, false, q, p)
	checkStorable(t, true, get(asked[:1]...), p)
	checkLifetime(t, 1, p, 5)
	checkLifetime(t, day, answer(200, told[3:5]...), 5)
	if !slices.Equal(asked, wasAsked) || !slices.Equal(told, wasTold) || string(q.Body) != "abc" || string(p.Body) != "def" {
		t.Error("an argument has changed:", asked, told, q, p)
	}
}

// R4 and R5: a result depends on the arguments alone, also for several goroutines at the same time.

func TestSeveralGoroutines(t *testing.T) {
	q, p := get(control("max-stale=5")), answer(302, control("public"), modified(zeroText))
	targetedAnswer := answer(200, targeted("s-maxage=9"), p.Fields[0])
	r, asked := oldRules("public"), oldRules("max-stale=5")
	var group sync.WaitGroup
	for range 8 {
		group.Go(func() {
			for n := range 300 {
				checkStorable(t, true, q, p)
				checkStorable(t, false, get(control("no-store")), p)
				checkLifetime(t, n, p, int64(10*n))
				checkLifetime(t, 9, targetedAnswer, int64(n))
				checkJudge(t, policy.Hit, n+5, n, r, asked)
				checkJudge(t, policy.Stale, n+6, n, r, asked)
				checkOnError(t, true, n, 0, r)
				checkOnError(t, false, n, n, oldRules("must-revalidate"))
			}
		})
	}
	group.Wait()
}
