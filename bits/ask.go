package bits

import (
	mathbits "math/bits"

	"eggbox/api"
)

// Size: how many numbers s has.
func Size(s api.Set) int {
	n := 0
	for _, word := range s {
		n += mathbits.OnesCount64(word)
	}
	return n
}

// Subset: whether all of a is in b.
func Subset(a, b api.Set) bool { return Union(a, b) == b }

// Next: the least number of s that is at least i.
func Next(s api.Set, i int) (int, bool) {
	if i >= api.MaxNumbers {
		return 0, false
	}
	i = max(i, 0)
	w := i / wordSize
	rest := s[w] &^ (bitOf(i) - 1)
	for rest == 0 {
		if w++; w == len(s) {
			return 0, false
		}
		rest = s[w]
	}
	return w*wordSize + mathbits.TrailingZeros64(rest), true
}

// Rank: how many numbers of s are below i.
func Rank(s api.Set, i int) int {
	// Outside of these the answer is the same as at them, and the subtraction below can't go round.
	i = max(0, min(i, api.MaxNumbers))
	n := 0
	for w, word := range s {
		n += mathbits.OnesCount64(word & lowOnes(i-w*wordSize))
	}
	return n
}

// Compare: -1, 0 or 1, as the sets stand to each other, taken for numbers of 512 bits.
func Compare(a, b api.Set) int {
	if a == b {
		return 0
	}
	w := len(a) - 1
	for a[w] == b[w] {
		w--
	}
	if a[w] < b[w] {
		return -1
	}
	return 1
}
