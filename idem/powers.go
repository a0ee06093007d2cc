package idem

import (
	"iter"

	"eggbox/api"
	"eggbox/monoid"
)

// powers goes through an element's powers, from the power 0 on: how many times, and what that makes. There are no more powers than elements, so that the last one that is gone through was met before.
func powers(m *monoid.Monoid, i int) iter.Seq2[int, int] {
	return func(yield func(n, power int) bool) {
		power := 0
		for n := range m.Len() + 1 {
			if !yield(n, power) {
				return
			}
			power = product(m, power, i)
		}
	}
}

// Omega: the idempotent among the powers; Cycle: index and period of the powers; Exponent: the least power that is idempotent for all.
func Omega(m *monoid.Monoid, i int) (int, api.Errno) {
	if e := check(m, i); e != api.OK {
		return 0, e
	}
	out := 0
	for n, power := range powers(m, i) {
		// The power 0 is idempotent, and yet none of those that are meant.
		if n > 0 && isIdempotent(m, power) {
			out = power
			break
		}
	}
	return out, api.OK
}

func Cycle(m *monoid.Monoid, i int) (index, period int, e api.Errno) {
	if e = check(m, i); e != api.OK {
		return 0, 0, e
	}
	index, period = cycle(m, i)
	return index, period, api.OK
}

// cycle is where the powers' circle begins, and how long it is: the first power that was met before closes it.
func cycle(m *monoid.Monoid, i int) (index, period int) {
	met := make([]int, m.Len()) // for each element how many powers had been gone through when it was met; 0: it was not
	for n, power := range powers(m, i) {
		if met[power] > 0 {
			index = met[power] - 1
			period = n - index
			break
		}
		met[power] = n + 1
	}
	return index, period
}

func Exponent(m *monoid.Monoid) (int, api.Errno) {
	if e := check(m); e != api.OK {
		return 0, e
	}
	// A power n from 1 on is idempotent just if n is a multiple of the period and no less than the index.
	step, least := 1, 1
	for i := range m.Len() {
		index, period := cycle(m, i)
		step = multiple(step, period)
		least = max(least, index)
	}
	return (least + step - 1) / step * step, api.OK
}

// multiple is the least common one. That of all periods fits an int by far: two circles of prime lengths p and q, unlike, that share two states make p q elements, so that MaxStates states have room for no more than two such lengths above 22.
func multiple(a, b int) int { return a / divisor(a, b) * b }

// divisor is the greatest common one.
func divisor(a, b int) int {
	for b > 0 {
		a, b = b, a%b
	}
	return a
}
