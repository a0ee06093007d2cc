// Package word is layer 1: words over k letters: see shared/doc/01-word.md.
package word

import (
	"cmp"
	"strings"

	"eggbox/api"
)

const firstLetter = 'a'

// Check: is it a word over k letters?
func Check(k int, w string) api.Errno {
	if k < 1 || k > api.MaxLetters {
		return api.ErrLetters
	}
	// A byte that is no letter, alone or as part of a rune, never decodes to one of the letters.
	for _, sign := range w {
		if sign < firstLetter || sign >= firstLetter+rune(k) {
			return api.ErrLetter
		}
	}
	return api.OK
}

// Compare: -1, 0 or 1: in length-then-letter order.
func Compare(k int, u, v string) (int, api.Errno) {
	// Check(k, u) and Check(k, v) differ on ErrLetter alone, so which comes first is not seen.
	if e := Check(k, u); e != api.OK {
		return 0, e
	}
	if e := Check(k, v); e != api.OK {
		return 0, e
	}
	return cmp.Or(cmp.Compare(len(u), len(v)), strings.Compare(u, v)), api.OK
}

// Power: n times w.
func Power(k int, w string, n int) (string, api.Errno) {
	if e := Check(k, w); e != api.OK {
		return "", e
	}
	if n < 0 {
		return "", api.ErrArg
	}
	// The empty word has every power, and a huge n must not be counted through.
	if w == "" {
		return "", api.OK
	}
	// A quotient, since len(w)*n may wrap round.
	if n > api.MaxLength/len(w) {
		return "", api.ErrSize
	}
	// Not strings.Repeat, which answers w itself for n 1: an answer is new memory.
	var out strings.Builder
	for range n {
		out.WriteString(w)
	}
	return out.String(), api.OK
}

// Reverse: w from behind.
func Reverse(k int, w string) (string, api.Errno) {
	if e := Check(k, w); e != api.OK {
		return "", e
	}
	out := make([]byte, len(w))
	for i := range len(w) {
		out[len(w)-1-i] = w[i]
	}
	return string(out), api.OK
}
