package bits

import "eggbox/api"

// Shift: all numbers of s moved by n; those that leave the range fall out.
func Shift(s api.Set, n int) api.Set {
	switch {
	case n >= api.MaxNumbers || n <= -api.MaxNumbers:
		return api.Set{}
	case n < 0:
		return shiftDown(s, -n)
	}
	return shiftUp(s, n)
}

// shiftUp moves s by n, from 0 to 511, towards the greater numbers.
func shiftUp(s api.Set, n int) api.Set {
	words, rest := n/wordSize, n%wordSize
	var out api.Set
	for from := range len(s) - words {
		to := from + words
		out[to] |= s[from] << rest
		if to+1 < len(out) {
			// With a rest of 0 the whole word is shifted out, as it should be.
			out[to+1] |= s[from] >> (wordSize - rest)
		}
	}
	return out
}

// shiftDown moves s by n, from 0 to 511, towards the lesser numbers.
func shiftDown(s api.Set, n int) api.Set {
	words, rest := n/wordSize, n%wordSize
	var out api.Set
	for to := range len(s) - words {
		from := to + words
		out[to] |= s[from] >> rest
		if to > 0 {
			out[to-1] |= s[from] << (wordSize - rest)
		}
	}
	return out
}

// Field: the worth of a field.
func Field(s api.Set, at, width int) (uint64, api.Errno) {
	if !isField(at, width) {
		return 0, api.ErrArg
	}
	w, low := at/wordSize, at%wordSize
	worth := s[w] >> low
	if low+width > wordSize {
		worth |= s[w+1] << (wordSize - low)
	}
	return worth & lowOnes(width), api.OK
}

// Put: s with another worth of a field.
func Put(s api.Set, at, width int, v uint64) (api.Set, api.Errno) {
	if !isField(at, width) {
		return api.Set{}, api.ErrArg
	}
	field := lowOnes(width)
	if v > field {
		return api.Set{}, api.ErrRange
	}
	w, low := at/wordSize, at%wordSize
	s[w] = s[w]&^(field<<low) | v<<low
	if low+width > wordSize {
		high := wordSize - low
		s[w+1] = s[w+1]&^(field>>high) | v>>high
	}
	return s, api.OK
}

// isField: the width is asked first, so that no subtraction can go round.
func isField(at, width int) bool {
	return width >= 1 && width <= wordSize && at >= 0 && at <= api.MaxNumbers-width
}
