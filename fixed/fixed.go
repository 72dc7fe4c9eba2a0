// Package fixed is layer 1: numbers of 256ths, which stop at their limits instead of overflowing.
package fixed

import "math"

// Num is a number of 256ths.
type Num int32

const (
	lowest  = math.MinInt32
	highest = math.MaxInt32
	one     = 256 // the Num that is the whole number 1
)

// A root's square is at most 256 times highest, which is below 2^40.
const rootBits = 20

type integer interface{ ~int | ~int32 | ~int64 }

// Of: P1.1.
func Of(n int) Num {
	// Bounded ahead of the product, too, which would not fit into an int for every n.
	return bound(one * int64(bound(n)))
}

// Whole: P1.1.
func Whole(n Num) int {
	return int(floorDiv(int64(n), one))
}

// Add: P1.1.
func Add(a, b Num) Num {
	return bound(int64(a) + int64(b))
}

// Sub: P1.1.
func Sub(a, b Num) Num {
	return bound(int64(a) - int64(b))
}

// Mul: P1.2.
func Mul(a, b Num) Num {
	return bound(floorDiv(int64(a)*int64(b), one))
}

// Div: P1.2.
func Div(a, b Num) Num {
	if b == 0 {
		return limitTowards(a)
	}
	return bound(floorDiv(one*int64(a), int64(b)))
}

// Neg: P1.1.
func Neg(a Num) Num {
	return Sub(0, a)
}

// Abs: P1.1.
func Abs(a Num) Num {
	if a < 0 {
		return Neg(a)
	}
	return a
}

// Clamp: P1.3.
func Clamp(n, low, high Num) Num {
	return within(n, low, high)
}

// Trunc: P1.3.
func Trunc(n Num, by int32) Num {
	if by == 0 {
		return 0
	}
	// Of all the quotients one is beyond a limit: the lowest number's by -1.
	return bound(int64(n) / int64(by))
}

// Root: P1.3.
func Root(n Num) Num {
	if n < 0 {
		return 0
	}
	square := one * int64(n)
	root := int64(0)
	for i := range rootBits {
		more := root | 1<<(rootBits-1-i)
		if more*more <= square {
			root = more
		}
	}
	return Num(root)
}

// limitTowards stands in for a quotient by 0, which has a sign but no size.
func limitTowards(a Num) Num {
	switch {
	case a > 0:
		return highest
	case a < 0:
		return lowest
	}
	return 0
}

// floorDiv takes a b that is not 0. Go's own division rounds toward 0, which is up for quotients below 0.
func floorDiv(a, b int64) int64 {
	q := a / b
	if a%b != 0 && (a < 0) != (b < 0) {
		q--
	}
	return q
}

// bound takes integers that are wider than a Num: results are worked out in those, where they fit.
func bound[T integer](n T) Num {
	return Num(within(n, lowest, highest))
}

// within asks for low first, as low is also the answer where high is below it.
func within[T integer](n, low, high T) T {
	switch {
	case n < low || high < low:
		return low
	case n > high:
		return high
	}
	return n
}
