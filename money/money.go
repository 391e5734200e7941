// Package money computes with exact amounts of money: see shared/doc/01-money.md.
package money

import (
	"cmp"
	"slices"
	"strconv"
	"strings"

	"foyer/api"
)

const (
	unit    = 100                 // cents of a whole unit
	longest = len("-10000000.00") // bytes of the longest text of an amount
)

// Valid reports whether a number is an amount.
func Valid(n int) bool { return within(n, -api.MaxAmount, api.MaxAmount) }

// Sum returns the sum of amounts.
func Sum(l []int) (int, api.Errno) {
	for _, n := range l {
		if !Valid(n) {
			return 0, api.ErrArg
		}
	}
	total := add(l...)
	if !Valid(total) {
		return 0, api.ErrRange
	}
	return total, api.OK
}

// Share returns the part of an amount that a ratio says, rounded.
func Share(n int, r api.Ratio) (int, api.Errno) {
	if !Valid(n) || !validRatio(r) {
		return 0, api.ErrArg
	}
	size, sign := absolute(n)
	share := sign * nearest(size*r.Num, r.Den)
	if !Valid(share) {
		return 0, api.ErrRange
	}
	return share, api.OK
}

// Split divides an amount by weights, without a rest.
func Split(n int, weights []int) ([]int, api.Errno) {
	if !Valid(n) || !validWeights(weights) {
		return nil, api.ErrArg
	}
	size, sign := absolute(n)
	parts := divide(size, weights)
	for i := range parts {
		parts[i] *= sign
	}
	return parts, api.OK
}

// Text returns the text of an amount.
func Text(n int) string {
	if !Valid(n) {
		return ""
	}
	size, sign := absolute(n)
	// The unit that is added keeps the leading zero of the cents.
	cents := strconv.Itoa(unit + size%unit)[1:]
	text := strconv.Itoa(size/unit) + "." + cents
	if sign < 0 {
		return "-" + text
	}
	return text
}

// Parse returns the amount with a text.
func Parse(text string) (int, api.Errno) {
	if len(text) > longest {
		return 0, api.ErrSyntax
	}
	whole, cents, _ := strings.Cut(text, ".")
	n, err := strconv.Atoi(whole + cents)
	// Atoi reads more texts than amounts have (signs, zeros, no point): only the text that would be written counts.
	if err != nil || Text(n) != text {
		return 0, api.ErrSyntax
	}
	return n, api.OK
}

func validRatio(r api.Ratio) bool {
	return within(r.Num, 0, api.MaxNum) && within(r.Den, 1, api.MaxNum)
}

func validWeights(weights []int) bool {
	for _, w := range weights {
		if !within(w, 0, api.MaxAmount) {
			return false
		}
	}
	return add(weights...) > 0
}

// divide splits an amount that is not negative by valid weights.
func divide(size int, weights []int) []int {
	total := add(weights...)
	parts := make([]int, len(weights))
	rests := make([]int, len(weights))
	for i, w := range weights {
		parts[i], rests[i] = size*w/total, size*w%total
	}
	left := size - add(parts...)
	for _, i := range byRest(rests)[:left] {
		parts[i]++
	}
	return parts
}

// byRest returns the indices of remainders, the greatest remainder first, of equal ones the lesser index.
func byRest(rests []int) []int {
	order := make([]int, len(rests))
	for i := range order {
		order[i] = i
	}
	slices.SortFunc(order, func(i, j int) int {
		return cmp.Or(cmp.Compare(rests[j], rests[i]), cmp.Compare(i, j))
	})
	return order
}

// nearest returns the integer that is nearest to num / den, the even one of two; num is not negative, den is positive.
func nearest(num, den int) int {
	whole, rest := num/den, num%den
	if 2*rest > den || 2*rest == den && whole%2 == 1 {
		whole++
	}
	return whole
}

func absolute(n int) (size, sign int) {
	if n < 0 {
		return -n, -1
	}
	return n, 1
}

func within[T cmp.Ordered](n, low, high T) bool { return low <= n && n <= high }

func add(l ...int) int {
	total := 0
	for _, n := range l {
		total += n
	}
	return total
}
