package age

import "scullery/api"

// lastTime is the greatest time.
const lastTime = 1 << 40

const (
	lowBits = 32
	lowMask = 1<<lowBits - 1
)

// Clamp returns n limited to the range of times.
func Clamp(n int64) int64 { return limit(n, 0, lastTime) }

// Sum returns the sum of seconds, limited to the range from 0 to api.Top.
func Sum(l ...int64) int {
	// The sum of many great numbers may need more than 64 bits, so the upper and the lower bits of each are added separately.
	var upper, lower int64
	for _, n := range l {
		n = limit(n, -lastTime, lastTime)
		upper += n >> lowBits
		lower += n & lowMask
	}
	upper += lower >> lowBits
	lower &= lowMask
	switch {
	case upper < 0:
		return 0
	case upper > 0:
		return api.Top
	}
	return int(min(lower, api.Top))
}

// interval returns the seconds from one time to another one.
func interval(from, to int64) int64 { return max(Clamp(to)-Clamp(from), 0) }

func limit(n, least, most int64) int64 { return min(max(n, least), most) }
