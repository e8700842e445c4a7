package policy_test

import (
	"math"
	"testing"

	"scullery/api"
	"scullery/legacy"
	"scullery/policy"
)

// P14.3: one case after the other.

func TestJudgeByAge(t *testing.T) {
	for _, c := range []struct{ age, life, want int }{
		{0, 0, policy.Stale}, {0, 1, policy.Hit}, {1, 0, policy.Stale}, {1, 1, policy.Stale}, {5, 10, policy.Hit}, {9, 10, policy.Hit}, {10, 10, policy.Stale}, {11, 10, policy.Stale},
		{0, api.Top, policy.Hit}, {api.Top - 1, api.Top, policy.Hit}, {api.Top, api.Top, policy.Stale}, {api.Top, api.Top - 1, policy.Stale}, {api.Top, 0, policy.Stale}, {api.Top - 2, api.Top - 1, policy.Hit}, {api.Top - 1, api.Top - 1, policy.Stale},
	} {
		checkJudge(t, c.want, c.age, c.life, none(), none())
		for _, name := range []string{"must-revalidate", "proxy-revalidate", "s-maxage=5", "s-maxage=0", "immutable", "public", "private", "no-store", "only-if-cached", "max-age=0", "max-age=5", "max-stale", "max-stale=5", "min-fresh=5", "min-fresh=2147483648", "stale-if-error=5"} {
			checkJudge(t, c.want, c.age, c.life, oldRules(name), none())
		}
		for _, name := range []string{"must-revalidate", "proxy-revalidate", "s-maxage=5", "s-maxage=0", "immutable", "public", "private", "no-store", "only-if-cached", "max-age=2147483648", "max-stale=0", "min-fresh=0", "stale-if-error=5", "stale-if-error=2147483648"} {
			want := c.want
			if name == "max-stale=0" && c.age == c.life {
				want = policy.Hit
			}
			if name == "min-fresh=0" && c.age > c.life {
				want = policy.Asked
			}
			checkJudge(t, want, c.age, c.life, none(), oldRules(name))
		}
	}
}

func TestJudgeByNoCacheOfTheResponse(t *testing.T) {
	for _, r := range []string{"no-cache", "no-cache, immutable", "no-cache, public, max-age=99, s-maxage=99", "no-cache, stale-if-error=99, max-stale, min-fresh=0"} {
		for _, q := range []string{"", "no-cache", "max-age=0", "min-fresh=99", "max-stale", "immutable", "no-cache, max-stale=99, only-if-cached"} {
			for _, ages := range [][2]int{{0, 0}, {0, 10}, {5, 10}, {9, 10}, {10, 10}, {20, 10}, {0, api.Top}, {api.Top, 0}, {api.Top, api.Top}} {
				checkJudge(t, policy.Stale, ages[0], ages[1], oldRules(r), oldRules(q))
			}
		}
	}
}

func TestJudgeByImmutable(t *testing.T) {
	for _, q := range []string{"", "no-cache", "max-age=0", "min-fresh=2147483648", "max-stale", "no-cache, max-age=0, min-fresh=99", "no-store"} {
		for _, r := range []string{"immutable", "immutable, must-revalidate", "immutable, s-maxage=0", "immutable, proxy-revalidate, private"} {
			for _, ages := range [][2]int{{0, 1}, {0, 10}, {9, 10}, {0, api.Top}, {api.Top - 1, api.Top}} {
				checkJudge(t, policy.Hit, ages[0], ages[1], oldRules(r), oldRules(q))
			}
		}
	}
	for _, c := range []struct {
		age, life int
		q         string
		want      int
	}{
		{10, 10, "", policy.Stale}, {10, 10, "no-cache", policy.Asked}, {10, 10, "max-age=9", policy.Asked}, {10, 10, "max-age=10", policy.Stale}, {10, 10, "min-fresh=0", policy.Stale}, {10, 10, "min-fresh=1", policy.Asked}, {11, 10, "max-stale=1", policy.Hit}, {11, 10, "max-stale=0", policy.Stale}, {0, 0, "", policy.Stale}, {0, 0, "no-cache", policy.Asked},
		{api.Top, api.Top, "", policy.Stale}, {api.Top, 0, "no-cache", policy.Asked},
	} {
		checkJudge(t, c.want, c.age, c.life, oldRules("immutable"), oldRules(c.q))
	}
	// The immutable of a request counts for nothing.
	checkJudge(t, policy.Asked, 5, 10, none(), oldRules("immutable, no-cache"))
	checkJudge(t, policy.Asked, 5, 10, none(), oldRules("immutable, max-age=4"))
}

func TestJudgeByTheRequest(t *testing.T) {
	for _, c := range []struct {
		age, life int
		q         string
		want      int
	}{
		{0, 10, "no-cache", policy.Asked}, {10, 10, "no-cache", policy.Asked}, {20, 10, "no-cache, max-stale", policy.Asked}, {0, api.Top, "no-cache", policy.Asked},
		// max-age below, at and above the age.
		{5, 10, "max-age=4", policy.Asked}, {5, 10, "max-age=5", policy.Hit}, {5, 10, "max-age=6", policy.Hit}, {0, 10, "max-age=0", policy.Hit}, {1, 10, "max-age=0", policy.Asked}, {5, 10, "max-age=x", policy.Asked}, {0, 10, "max-age=x", policy.Hit}, {10, 10, "max-age=9", policy.Asked}, {10, 10, "max-age=10", policy.Stale}, {10, 10, "max-age=11", policy.Stale},
		{api.Top - 1, api.Top, "max-age=2147483646", policy.Asked}, {api.Top - 1, api.Top, "max-age=2147483647", policy.Hit}, {api.Top, 10, "max-age=2147483648", policy.Stale}, {api.Top, 10, "max-age=2147483647", policy.Asked},
		// min-fresh below, at and above what is left.
		{5, 10, "min-fresh=4", policy.Hit}, {5, 10, "min-fresh=5", policy.Hit}, {5, 10, "min-fresh=6", policy.Asked}, {9, 10, "min-fresh=1", policy.Hit}, {9, 10, "min-fresh=2", policy.Asked}, {9, 10, "min-fresh=0", policy.Hit}, {10, 10, "min-fresh=0", policy.Stale}, {10, 10, "min-fresh=1", policy.Asked}, {11, 10, "min-fresh=0", policy.Asked}, {10, 10, "min-fresh=x", policy.Stale}, {11, 10, "min-fresh", policy.Asked},
		{0, api.Top, "min-fresh=2147483648", policy.Hit}, {1, api.Top, "min-fresh=2147483648", policy.Asked}, {1, api.Top, "min-fresh=2147483647", policy.Hit}, {api.Top, 0, "min-fresh=0", policy.Asked},
		// max-stale below, at and above what is too much.
		{10, 10, "max-stale=0", policy.Hit}, {11, 10, "max-stale=0", policy.Stale}, {15, 10, "max-stale=4", policy.Stale}, {15, 10, "max-stale=5", policy.Hit}, {15, 10, "max-stale=6", policy.Hit}, {15, 10, "max-stale", policy.Hit}, {15, 10, "max-stale=x", policy.Stale}, {10, 10, "max-stale=x", policy.Hit}, {5, 10, "max-stale=0", policy.Hit}, {5, 10, "max-stale", policy.Hit},
		{api.Top, 0, "max-stale", policy.Hit}, {api.Top, 0, "max-stale=2147483648", policy.Hit}, {api.Top, 0, "max-stale=2147483647", policy.Stale}, {api.Top, 1, "max-stale=2147483647", policy.Hit}, {api.Top, api.Top, "max-stale=0", policy.Hit},
		// More than one: the first that applies counts.
		{5, 10, "max-age=5, min-fresh=5", policy.Hit}, {5, 10, "max-age=4, min-fresh=5", policy.Asked}, {5, 10, "max-age=5, min-fresh=6", policy.Asked}, {15, 10, "max-stale=5, max-age=14", policy.Asked}, {15, 10, "max-stale=5, max-age=15", policy.Hit}, {15, 10, "max-stale=5, min-fresh=0", policy.Asked}, {15, 10, "max-stale, no-cache", policy.Asked}, {10, 10, "max-stale=0, min-fresh=0, max-age=10", policy.Hit}, {10, 10, "max-stale=0, min-fresh=1, max-age=10", policy.Asked},
		// What is no directive of a request.
		{15, 10, "stale-if-error=99", policy.Stale}, {5, 10, "s-maxage=0", policy.Hit}, {15, 10, "s-maxage=99", policy.Stale}, {15, 10, "max-stale=5, s-maxage=0, must-revalidate, proxy-revalidate", policy.Hit},
	} {
		checkJudge(t, c.want, c.age, c.life, none(), oldRules(c.q))
		checkJudge(t, c.want, c.age, c.life, oldRules("public, max-age=0, stale-if-error=99, max-stale, min-fresh=99, only-if-cached"), oldRules(c.q))
	}
}

func TestNoMaxStaleOfStrictRules(t *testing.T) {
	for _, r := range []string{"must-revalidate", "proxy-revalidate", "s-maxage=5", "s-maxage=0", "s-maxage=x", "s-maxage=2147483648", "must-revalidate, proxy-revalidate, s-maxage=5", "max-stale, must-revalidate"} {
		for _, q := range []string{"max-stale", "max-stale=99", "max-stale=5"} {
			checkJudge(t, policy.Stale, 15, 10, oldRules(r), oldRules(q))
			checkJudge(t, policy.Stale, 10, 10, oldRules(r), oldRules(q))
			checkJudge(t, policy.Hit, 9, 10, oldRules(r), oldRules(q))
			checkJudge(t, policy.Asked, 15, 10, oldRules(r), oldRules(q+", max-age=14"))
		}
	}
	for _, r := range []string{"", "max-age=5", "max-age=0", "public", "private", "no-store", "immutable", "only-if-cached", "max-stale=0", "min-fresh=0", "stale-if-error=0", "s-maxage="} {
		checkJudge(t, policy.Hit, 15, 10, oldRules(r), oldRules("max-stale=5"))
		checkJudge(t, policy.Stale, 15, 10, oldRules(r), oldRules("max-stale=4"))
	}
}

// TestNumbersThatAreAbsent has all numbers below 0 count as none.
func TestNumbersThatAreAbsent(t *testing.T) {
	for _, n := range []int{-1, -2, -5, -api.Top, math.MinInt32, math.MinInt64} {
		absent := legacy.Rules{MaxAge: n, SMaxAge: n, MaxStale: n, MinFresh: n, StaleIfError: n}
		for _, ages := range []int{0, 1, 5, 10, api.Top} {
			for _, life := range []int{0, 1, 5, 10, api.Top} {
				checkJudge(t, judgeByWords(ages, life, none(), none()), ages, life, absent, absent)
				checkJudge(t, judgeByWords(ages, life, none(), oldRules("max-stale=5")), ages, life, absent, oldRules("max-stale=5"))
				checkOnError(t, true, ages, life, absent)
				absent := absent
				absent.ProxyRevalidate = true
				checkOnError(t, ages < life, ages, life, absent)
			}
		}
	}
	// All are there, where they are 0.
	checkJudge(t, policy.Asked, 5, 10, legacy.Rules{}, legacy.Rules{})
	checkJudge(t, policy.Hit, 0, 10, legacy.Rules{}, legacy.Rules{})
	checkJudge(t, policy.Stale, 0, 0, legacy.Rules{}, legacy.Rules{})
	checkJudge(t, policy.Hit, 0, 0, none(), legacy.Rules{})
	checkOnError(t, true, 0, 0, legacy.Rules{})
	checkOnError(t, false, 1, 0, legacy.Rules{})
}

// TestNumbersOfAnySize has numbers of rules that no field tells.
func TestNumbersOfAnySize(t *testing.T) {
	for _, n := range []int{math.MaxInt32, api.Top - 1, api.Top, api.Top + 1, math.MaxUint32, end, math.MaxInt64 - 1, math.MaxInt64} {
		for _, ages := range []int{0, 1, 10, api.Top - 1, api.Top} {
			for _, life := range []int{0, 1, 10, api.Top - 1, api.Top} {
				for _, name := range numberNames() {
					rules := none()
					*numberOf(&rules, name) = n
					checkJudgeByWords(t, ages, life, none(), rules)
					checkJudgeByWords(t, ages, life, rules, none())
					checkJudgeByWords(t, ages, life, rules, oldRules("max-stale"))
					checkOnErrorByWords(t, ages, life, rules)
					rules.ProxyRevalidate = true
					checkOnErrorByWords(t, ages, life, rules)
				}
			}
		}
	}
}

// P14.3 and P14.4, by the words.

// eachRules calls f with the rules that have some of the bools, and each number absent or one of the given.
func eachRules(bools, numbers []string, values []int, f func(legacy.Rules)) {
	rules := none()
	var next func(i int)
	next = func(i int) {
		switch {
		case i < len(bools):
			for _, is := range []bool{false, true} {
				*boolOf(&rules, bools[i]) = is
				next(i + 1)
			}
		case i < len(bools)+len(numbers):
			for _, n := range values {
				*numberOf(&rules, numbers[i-len(bools)]) = n
				next(i + 1)
			}
		default:
			f(rules)
		}
	}
	next(0)
}

func TestJudgeByWords(t *testing.T) {
	var times [3]int
	eachRules([]string{"no-cache", "immutable", "must-revalidate", "proxy-revalidate"}, []string{"s-maxage"}, []int{-1, 0}, func(r legacy.Rules) {
		eachRules([]string{"no-cache"}, []string{"max-age", "min-fresh", "max-stale"}, []int{-1, 0, 1, 2, 3}, func(q legacy.Rules) {
			for age := range 5 {
				for life := range 5 {
					times[checkJudgeByWords(t, age, life, r, q)]++
				}
			}
		})
	})
	for answer, n := range times {
		if n < 10000 {
			t.Errorf("%d is answered %d times", answer, n)
		}
	}
}

func TestOnErrorByWords(t *testing.T) {
	var times [2]int
	eachRules(boolNames(), []string{"s-maxage", "stale-if-error"}, []int{-1, 0, 1, 2, 3}, func(r legacy.Rules) {
		for age := range 5 {
			for life := range 5 {
				if checkOnErrorByWords(t, age, life, r) {
					times[1]++
				} else {
					times[0]++
				}
			}
		}
	})
	for answer, n := range times {
		if n < 10000 {
			t.Errorf("%d is answered %d times", answer, n)
		}
	}
}

// TestDirectivesWithoutASay has the directives of either rules that change no answer.
func TestDirectivesWithoutASay(t *testing.T) {
	seconds := []int{0, 1, 9, 10, 11, api.Top}
	for _, ages := range seconds {
		for _, life := range seconds {
			for _, text := range []string{"", "no-cache", "immutable", "must-revalidate", "s-maxage=5", "max-age=9", "max-stale=1", "min-fresh=1"} {
				r := oldRules(text)
				for _, q := range []string{"", "no-cache", "max-age=9", "min-fresh=1", "max-stale=1"} {
					want := judgeByWords(ages, life, r, oldRules(q))
					for _, other := range []string{"no-store", "private", "public", "only-if-cached", "max-age=0", "max-stale=99", "min-fresh=99", "stale-if-error=99"} {
						checkJudge(t, want, ages, life, oldRules(text+","+other), oldRules(q))
					}
					for _, other := range []string{"no-store", "private", "public", "only-if-cached", "must-revalidate", "proxy-revalidate", "immutable", "s-maxage=0", "stale-if-error=99"} {
						checkJudge(t, want, ages, life, r, oldRules(q+","+other))
					}
				}
				for _, other := range []string{"no-store", "private", "public", "only-if-cached", "immutable", "max-age=0", "max-stale=99", "min-fresh=99"} {
					checkOnError(t, onErrorByWords(ages, life, r), ages, life, oldRules(text+","+other))
				}
			}
		}
	}
}

// P14.4.

func TestOnError(t *testing.T) {
	for _, c := range []struct {
		age, life int
		r         string
		want      bool
	}{
		// Without directives.
		{0, 0, "", true}, {5, 10, "", true}, {10, 10, "", true}, {99, 10, "", true}, {api.Top, 0, "", true}, {99, 10, "max-age=10, public, private, no-store, immutable, only-if-cached, max-stale=0, min-fresh=99", true},
		// With no-cache.
		{0, 10, "no-cache", false}, {10, 10, "no-cache", false}, {0, 10, "no-cache, immutable", false}, {15, 10, "no-cache, stale-if-error=99", false}, {0, api.Top, "no-cache, s-maxage=10, stale-if-error=99", false},
		// Strict.
		{9, 10, "must-revalidate", true}, {10, 10, "must-revalidate", false}, {11, 10, "must-revalidate", false}, {9, 10, "proxy-revalidate", true}, {10, 10, "proxy-revalidate", false}, {9, 10, "s-maxage=10", true}, {10, 10, "s-maxage=10", false}, {10, 10, "s-maxage=0", false}, {9, 10, "s-maxage=0", true}, {10, 10, "s-maxage=x", false}, {10, 10, "s-maxage=", true},
		{0, api.Top, "must-revalidate, proxy-revalidate, s-maxage=0", true}, {api.Top - 1, api.Top, "must-revalidate", true}, {api.Top, api.Top, "must-revalidate", false}, {api.Top, 0, "proxy-revalidate", false}, {0, 0, "proxy-revalidate", false},
		// Strict, with stale-if-error below, at and above what is too much.
		{15, 10, "s-maxage=10, stale-if-error=4", false}, {15, 10, "s-maxage=10, stale-if-error=5", true}, {15, 10, "s-maxage=10, stale-if-error=6", true}, {15, 10, "proxy-revalidate, stale-if-error=4", false}, {15, 10, "proxy-revalidate, stale-if-error=5", true}, {15, 10, "proxy-revalidate, stale-if-error=6", true}, {15, 10, "proxy-revalidate, s-maxage=10, stale-if-error=5", true}, {10, 10, "proxy-revalidate, stale-if-error=0", true}, {11, 10, "proxy-revalidate, stale-if-error=0", false}, {10, 10, "proxy-revalidate, stale-if-error", true}, {11, 10, "proxy-revalidate, stale-if-error=x", false},
		{15, 10, "must-revalidate, stale-if-error=5", false}, {15, 10, "must-revalidate, stale-if-error=99", false}, {10, 10, "must-revalidate, stale-if-error=0", false}, {9, 10, "must-revalidate, stale-if-error=0", true}, {15, 10, "must-revalidate, proxy-revalidate, s-maxage=10, stale-if-error=99", false},
		{api.Top, 0, "s-maxage=0, stale-if-error=2147483648", true}, {api.Top, 0, "s-maxage=0, stale-if-error=2147483647", false}, {api.Top, 1, "s-maxage=0, stale-if-error=2147483647", true},
		// Not strict, whatever stale-if-error is.
		{15, 10, "stale-if-error=4", true}, {99, 10, "stale-if-error=0", true}, {99, 10, "stale-if-error", true},
		// The max-stale of a response counts for nothing.
		{15, 10, "must-revalidate, max-stale", false}, {15, 10, "s-maxage=10, max-stale=99", false},
	} {
		checkOnError(t, c.want, c.age, c.life, oldRules(c.r))
	}
}
