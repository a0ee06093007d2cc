package word

import (
	"math"
	"slices"

	"eggbox/api"
)

// Next: the next word in length-then-letter order.
func Next(k int, w string) (string, api.Errno) {
	if e := Check(k, w); e != api.OK {
		return "", e
	}
	// No word is followed by a shorter one, so a word that is too long need not be copied.
	if len(w) > api.MaxLength {
		return "", api.ErrSize
	}
	last := byte(firstLetter + k - 1)
	out := []byte(w)
	for i := len(out) - 1; i >= 0; i-- {
		if out[i] != last {
			out[i]++
			return string(out), api.OK
		}
		out[i] = firstLetter
	}
	if len(out) == api.MaxLength {
		return "", api.ErrSize
	}
	return string(append(out, firstLetter)), api.OK
}

// Nth: the word whose number is n.
func Nth(k int, n uint64) (string, api.Errno) {
	if e := Check(k, ""); e != api.OK {
		return "", e
	}
	// The letters are digits 1 to k, so that each number has just one word: hence n-1 before each division.
	var out []byte
	for n > 0 {
		if len(out) == api.MaxLength {
			return "", api.ErrSize
		}
		n--
		out = append(out, firstLetter+byte(n%uint64(k)))
		n /= uint64(k)
	}
	slices.Reverse(out)
	return string(out), api.OK
}

// Rank: the number of a word.
func Rank(k int, w string) (uint64, api.Errno) {
	if e := Check(k, w); e != api.OK {
		return 0, e
	}
	n := uint64(0)
	for _, sign := range w {
		digit := uint64(sign-firstLetter) + 1
		// A longer word has a greater number, so what has once grown too great stays so.
		if n > (math.MaxUint64-digit)/uint64(k) {
			return 0, api.ErrRange
		}
		n = n*uint64(k) + digit
	}
	return n, api.OK
}
