// Package whole computes with whole numbers.
package whole

import "reelfeeder/api"

// Within says whether a number is from low to high.
func Within(n, low, high int) bool { return low <= n && n <= high }

// Nearest is the integer nearest to a quotient (half up). The divisor is above 0.
func Nearest(n, by int) int {
	down, left := n/by, n%by
	if left < 0 { // Go rounds towards 0
		down, left = down-1, left+by
	}
	if left >= by-left {
		return down + 1
	}
	return down
}

// Lowest is a fraction in lowest terms, of a number from 0 on and one above 0.
func Lowest(num, den int) api.Fraction {
	common, rest := den, num
	for rest != 0 {
		common, rest = rest, common%rest
	}
	return api.Fraction{Num: num / common, Den: den / common}
}

// Moment says whether a number is a moment.
func Moment(n int) bool { return Within(n, 0, api.End-1) }

// Members are the elements of a set, rising: element i is in the sets that have bit i.
func Members(set int) []int {
	var list []int
	for i := 0; set>>i > 0; i++ {
		if set>>i&1 == 1 {
			list = append(list, i)
		}
	}
	return list
}
