package age_test

import (
	"math"
	"slices"
	"testing"

	"scullery/age"
	"scullery/api"
)

// P13.1: Clamp.

func TestClamp(t *testing.T) {
	for _, n := range []int64{0, 1, 2, 60, api.Top - 1, api.Top, api.Top + 1, math.MaxUint32, math.MaxUint32 + 1, noon, lastDate, end - 2, end - 1, end} {
		checkClamp(t, n, n)
	}
	for _, n := range []int64{-1, -2, -60, -api.Top, -noon, -end + 1, -end, -end - 1, math.MinInt64 + 1, math.MinInt64} {
		checkClamp(t, n, 0)
	}
	for _, n := range []int64{end + 1, end + 2, 2 * end, 1 << 62, math.MaxInt64 - 1, math.MaxInt64} {
		checkClamp(t, n, end)
	}
}

func TestClampByWords(t *testing.T) {
	for _, n := range edges() {
		checkClamp(t, n, timeByWords(n).Int64())
	}
	for n := int64(1); n > 0; n *= 3 {
		checkClamp(t, n, timeByWords(n).Int64())
		checkClamp(t, -n, timeByWords(-n).Int64())
		checkClamp(t, end-n, timeByWords(end-n).Int64())
		checkClamp(t, age.Clamp(n), age.Clamp(n))
	}
}

// P13.1: Sum.

func TestSumsOfNothing(t *testing.T) {
	checkSum(t, 0)
	checkSum(t, 0, nil...)
	checkSum(t, 0, []int64{}...)
	checkSum(t, 0, make([]int64, 0, 3)...)
}

func TestSumsOfOne(t *testing.T) {
	for _, n := range []int64{0, 1, 2, 60, noon, api.Top - 2, api.Top - 1, api.Top} {
		checkSum(t, int(n), n)
	}
	for _, n := range []int64{api.Top + 1, api.Top + 2, math.MaxUint32, math.MaxUint32 + 1, math.MaxUint32 + 2, lastDate, end - 1, end, end + 1, 2 * end, 1 << 62, math.MaxInt64} {
		checkSum(t, api.Top, n)
	}
	for _, n := range []int64{-1, -2, -60, -noon, -api.Top, -math.MaxUint32 - 1, -math.MaxUint32, -end + 1, -end, -end - 1, math.MinInt64 + 1, math.MinInt64} {
		checkSum(t, 0, n)
	}
}

func TestSumsOfSeveral(t *testing.T) {
	checkSum(t, 3, 1, 2)
	checkSum(t, 10, 1, 2, 3, 4)
	checkSum(t, 2, 5, -3)
	checkSum(t, 2, -3, 5)
	checkSum(t, 0, 5, -5)
	checkSum(t, 0, -5, 4)
	checkSum(t, 0, -1, -1)
	checkSum(t, 1, 0, 0, 1, 0)
	// About the upper end.
	checkSum(t, api.Top-1, api.Top-2, 1)
	checkSum(t, api.Top, api.Top-1, 1)
	checkSum(t, api.Top, api.Top, 0)
	checkSum(t, api.Top, api.Top, 1)
	checkSum(t, api.Top, 1<<31, 5)
	checkSum(t, api.Top, 1<<30, 1<<30)
	checkSum(t, api.Top-1, 1<<30, 1<<30, -1)
	checkSum(t, api.Top, 1<<31, 1<<31)
	checkSum(t, api.Top, 1<<32, 1)
	// Only the whole sum is limited.
	checkSum(t, api.Top-1, api.Top, api.Top, -api.Top-1)
	checkSum(t, 5, end, end, -end, 5, -end)
	checkSum(t, 5, -end, 5, end)
	checkSum(t, 4, -5, -5, 14)
	checkSum(t, 0, -1<<32, 1<<32-1)
	checkSum(t, 1, -1<<32, 1<<32+1)
	checkSum(t, 7, -10, -10, -10, 37)
}

func TestElementsBeyondTheirEnds(t *testing.T) {
	for _, great := range []int64{end, end + 1, end + 1000, 2 * end, math.MaxInt64 - 1, math.MaxInt64} {
		checkSum(t, 0, great, -end)
		checkSum(t, 1, great, -end+1)
		checkSum(t, 0, great, -end-1)
		checkSum(t, 4, great, 4, math.MinInt64)
		checkSum(t, api.Top, great, great)
		checkSum(t, 5, great, great, -end, -end, 5)
	}
	for _, small := range []int64{-end, -end - 1, -end - 1000, -2 * end, math.MinInt64 + 1, math.MinInt64} {
		checkSum(t, 0, small, end)
		checkSum(t, 0, small, end-1)
		checkSum(t, 0, small, end+1)
		checkSum(t, 4, 4, math.MaxInt64, small)
		checkSum(t, 4, small, math.MaxInt64, 4)
		checkSum(t, 0, small, small)
		checkSum(t, 5, small, small, end, end, 5)
	}
	// An element at an end isn't moved.
	checkSum(t, 1, end, -end+1)
	checkSum(t, 0, end-1, -end)
	checkSum(t, 3, end-1, -end, 4)
}

func TestSumsByWords(t *testing.T) {
	sums := map[bool]int{}
	check := func(l []int64) {
		want := sumByWords(l...)
		checkSum(t, want, l...)
		sums[want > 0 && want < api.Top]++
	}
	eachList(edges(), 2, check)
	eachList([]int64{0, 5, -7, api.Top, -api.Top - 1, 1 << 32, -1 << 32, 1<<32 - 1, end, -end - 1, math.MaxInt64}, 5, check)
	if sums[true] < 1000 || sums[false] < 1000 {
		t.Error("too few of one kind:", sums)
	}
}

// P13.1: the order of the elements and their number don't count.

func TestLongSums(t *testing.T) {
	checkSum(t, many, slices.Repeat([]int64{1}, many)...)
	checkSum(t, 0, slices.Repeat([]int64{-1}, many)...)
	checkSum(t, 3*many, slices.Repeat([]int64{math.MaxInt64, 5, math.MinInt64, -2}, many)...)
	l := slices.Concat(slices.Repeat([]int64{end}, many), []int64{5}, slices.Repeat([]int64{-end}, many))
	checkSum(t, 5, l...)
	slices.Reverse(l)
	checkSum(t, 5, l...)
	checkSum(t, 0, append(l, -5)...)
	checkSum(t, 0, append(l, -6)...)
	checkSum(t, api.Top, append(l, end)...)
}

// Where all elements are of one sign, their sum would be beyond 64 bits.
func TestSumsBeyond64Bits(t *testing.T) {
	l := make([]int64, 1<<24+1)
	fill := func(n int64) {
		for i := range l {
			l[i] = n
		}
	}
	fill(end)
	for _, length := range []int{1<<23 - 1, 1 << 23, 1<<23 + 1, 1<<24 - 1, 1 << 24, 1<<24 + 1} {
		checkSum(t, api.Top, l[:length]...)
	}
	fill(math.MinInt64)
	for _, length := range []int{1<<23 - 1, 1 << 23, 1<<23 + 1, 1<<24 - 1, 1 << 24, 1<<24 + 1} {
		checkSum(t, 0, l[:length]...)
	}
}

// R3: what is given stays as it is.

func TestElementsStay(t *testing.T) {
	l := edges()
	age.Sum(l...)
	age.Sum(l[3:7]...)
	if !slices.Equal(l, edges()) {
		t.Error("Sum changed its elements:", l)
	}
}
