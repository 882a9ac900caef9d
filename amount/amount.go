// Package amount: numbers that never go round: see ../../shared/doc/01-amount.md.
package amount

import "wharfinger/api"

// maxParts bounds what Split makes: n may come from anywhere, memory may not.
const maxParts = 64

// May tells whether a is an amount.
func May(a int) bool { return 0 <= a && a <= api.MaxAmount }

// Add tells a and b together.
func Add(a, b int) (int, api.Errno) {
	if !May(a) || !May(b) {
		return 0, api.ErrArg
	}
	if a > api.MaxAmount-b {
		return 0, api.ErrOver
	}
	return a + b, api.OK
}

// Sub tells what is left of a without b.
func Sub(a, b int) (int, api.Errno) {
	if !May(a) || !May(b) {
		return 0, api.ErrArg
	}
	if a < b {
		return 0, api.ErrLess
	}
	return a - b, api.OK
}

// Mul tells a, b times.
func Mul(a, b int) (int, api.Errno) {
	if !May(a) || !May(b) {
		return 0, api.ErrArg
	}
	if b > 0 && a > api.MaxAmount/b {
		return 0, api.ErrOver
	}
	return a * b, api.OK
}

// Part tells n of the of equal parts of a, rounded down once, at the end.
func Part(a, n, of int) (int, api.Errno) {
	if !May(a) || !May(n) || !May(of) || of == 0 || n > of {
		return 0, api.ErrArg
	}
	// Two amounts make at most 10^18, which an int still holds; and since n
	// is not above of, what comes out is not above a.
	return a * n / of, api.OK
}

// Split deals a out into n parts as even as can be, the greater ones first.
func Split(a, n int) []int {
	if !May(a) || n < 1 || n > maxParts {
		return nil
	}
	each, over := a/n, a%n
	parts := make([]int, n)
	for i := range n {
		parts[i] = each
		if i < over {
			parts[i]++
		}
	}
	return parts
}

// Sum adds up l, from its first one on; it stops at the first one that can't
// be added, so that an error hides what comes behind it.
func Sum(l []int) (int, api.Errno) {
	sum := 0
	for _, a := range l {
		next, e := Add(sum, a)
		if e != api.OK {
			return 0, e
		}
		sum = next
	}
	return sum, api.OK
}
