// Package bits is layer 1: see shared/doc/01-bits.md.
package bits

import "iter"

// size is how many numbers a set can tell of: one a binary digit.
const size = 64

// Has says whether a number is in a set; of what is not 0 to 63 it is never.
func Has(s uint64, i int) bool {
	return fits(i) && s&one(i) != 0
}

// With is the set with all of l that can be in one.
func With(s uint64, l ...int) uint64 {
	return s | among(l)
}

// Without is the set without all of l.
func Without(s uint64, l ...int) uint64 {
	return s &^ among(l)
}

// List are the numbers of a set, rising.
func List(s uint64) []int {
	var l []int
	for i := range numbers(s) {
		l = append(l, i)
	}
	return l
}

// Count is how many numbers a set has.
func Count(s uint64) int {
	n := 0
	for range numbers(s) {
		n++
	}
	return n
}

// First is the least number of a set that is not below from; -1: there is none.
func First(s uint64, from int) int {
	for i := range numbers(s) {
		if i >= from {
			return i
		}
	}
	return -1
}

// All are the numbers from 0 to n - 1, as far as a set can tell of them.
func All(n int) uint64 {
	// Of size the one shifts out, and 0 less 1 wraps round to all digits.
	return one(min(max(n, 0), size)) - 1
}

// fits says whether a set can tell of a number.
func fits(i int) bool {
	return 0 <= i && i < size
}

// one is the set of i alone; its callers hold i to 0 and above, for a shift by less panics.
func one(i int) uint64 {
	return uint64(1) << i
}

// among is the set of those of l that can be in one.
func among(l []int) uint64 {
	s := uint64(0)
	for _, i := range l {
		if fits(i) {
			s |= one(i)
		}
	}
	return s
}

// numbers tells the numbers of a set, rising, till it is told to stop.
func numbers(s uint64) iter.Seq[int] {
	return func(yield func(int) bool) {
		for i := range size {
			if Has(s, i) && !yield(i) {
				return
			}
		}
	}
}
