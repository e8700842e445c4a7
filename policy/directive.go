package policy

import "scullery/legacy"

// directive accesses one directive of rules: set reports whether they have it, and seconds returns the number that it sets.
type directive struct {
	set     func(legacy.Rules) bool
	seconds func(legacy.Rules) int
}

// flag returns a directive that sets no number.
func flag(set func(legacy.Rules) bool) directive {
	return directive{set: set, seconds: func(legacy.Rules) int { return 0 }}
}

// number returns a directive that sets a number, which is below 0 where it is absent.
func number(seconds func(legacy.Rules) int) directive {
	return directive{set: func(r legacy.Rules) bool { return seconds(r) >= 0 }, seconds: seconds}
}

// reaches reports whether r have the directive, and its number is not less than seconds.
func (d directive) reaches(r legacy.Rules, seconds int) bool {
	return d.set(r) && seconds <= d.seconds(r)
}

// anySet reports whether r have one of the directives.
func anySet(r legacy.Rules, directives ...directive) bool {
	for _, d := range directives {
		if d.set(r) {
			return true
		}
	}
	return false
}

// strict reports whether r ask that a stale response is revalidated before it is used.
func strict(r legacy.Rules) bool { return anySet(r, mustRevalidate(), proxyRevalidate(), sMaxAge()) }

func noStore() directive { return flag(func(r legacy.Rules) bool { return r.NoStore }) }

func noCache() directive { return flag(func(r legacy.Rules) bool { return r.NoCache }) }

func private() directive { return flag(func(r legacy.Rules) bool { return r.Private }) }

func public() directive { return flag(func(r legacy.Rules) bool { return r.Public }) }

func mustRevalidate() directive { return flag(func(r legacy.Rules) bool { return r.MustRevalidate }) }

func proxyRevalidate() directive { return flag(func(r legacy.Rules) bool { return r.ProxyRevalidate }) }

func immutable() directive { return flag(func(r legacy.Rules) bool { return r.Immutable }) }

func maxAge() directive { return number(func(r legacy.Rules) int { return r.MaxAge }) }

func sMaxAge() directive { return number(func(r legacy.Rules) int { return r.SMaxAge }) }

func maxStale() directive { return number(func(r legacy.Rules) int { return r.MaxStale }) }

func minFresh() directive { return number(func(r legacy.Rules) int { return r.MinFresh }) }

func staleIfError() directive { return number(func(r legacy.Rules) int { return r.StaleIfError }) }
