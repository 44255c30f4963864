package surd

import "sort"

func gcd(a, b int) int {
	for b != 0 {
		a, b = b, a%b
	}
	return max(a, -a)
}

// split returns a square's side and a number without squares that make n together; the side is 0 for 0.
func split(n int) (side, rest int) {
	if n == 0 {
		return 0, 1
	}
	side, rest = 1, n
	for d := 2; d*d <= rest; d++ {
		for rest%(d*d) == 0 {
			side, rest = side*d, rest/(d*d)
		}
	}
	return side, rest
}

// wholeRoot returns the greatest integer whose square is not above n, for n from 0 to below 2^62.
func wholeRoot(n int) int {
	return sort.Search(1<<31, func(r int) bool { return r*r > n }) - 1
}

// exactRoot returns the whole number whose square is n, if there is one.
func exactRoot(n int) (int, bool) {
	if n < 0 {
		return 0, false
	}
	r := wholeRoot(n)
	return r, r*r == n
}

// floorQuo returns the greatest integer that is not above a / b, for b above 0.
func floorQuo(a, b int) int {
	q := a / b
	if a%b < 0 {
		q--
	}
	return q
}
