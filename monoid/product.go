package monoid

import (
	"slices"
	"strings"

	"eggbox/api"
)

// Product: of two elements; Right: with a letter behind; Left: with a letter ahead.
func (m *Monoid) Product(i, j int) (int, api.Errno) {
	if e := m.check(i); e != api.OK {
		return 0, e
	}
	if e := m.check(j); e != api.OK {
		return 0, e
	}
	return m.product.at(i, j), api.OK
}

func (m *Monoid) Right(i int, letter byte) (int, api.Errno) {
	if e := m.checkLetter(i, letter); e != api.OK {
		return 0, e
	}
	return m.right.at(i, place(rune(letter))), api.OK
}

func (m *Monoid) Left(i int, letter byte) (int, api.Errno) {
	if e := m.checkLetter(i, letter); e != api.OK {
		return 0, e
	}
	return m.left.at(i, place(rune(letter))), api.OK
}

// checkLetter: is it a monoid, this one of its elements, and that one of its letters?
func (m *Monoid) checkLetter(i int, letter byte) api.Errno {
	if e := m.check(i); e != api.OK {
		return e
	}
	if l := place(rune(letter)); l < 0 || l >= m.auto.Letters {
		return api.ErrLetter
	}
	return api.OK
}

// Power: n times; Zero: the one that takes all in; Rules: what longer words become.
func (m *Monoid) Power(i int, n uint64) (int, api.Errno) {
	if e := m.check(i); e != api.OK {
		return 0, e
	}
	// n may be far too great to go through one by one: its bits say which of i, i^2, i^4, .. make up the power.
	out, square := 0, i
	for ; n > 0; n >>= 1 {
		if n&1 == 1 {
			out = m.product.at(out, square)
		}
		square = m.product.at(square, square)
	}
	return out, api.OK
}

func (m *Monoid) Zero() (int, bool) {
	for z := range m.Len() {
		// What no letter changes, on either side, no word changes.
		changes := func(to uint16) bool { return int(to) != z }
		if !slices.ContainsFunc(m.right.row(z), changes) && !slices.ContainsFunc(m.left.row(z), changes) {
			return z, true
		}
	}
	return 0, false
}

func (m *Monoid) Rules() (left, right []string) {
	if !m.isMade() {
		return nil, nil
	}
	// The least words rise, and so do the words with one letter more: the left sides are met in order.
	for i, u := range m.words {
		for l := range m.auto.Letters {
			w, least := u+letterOf(l), m.words[m.right.at(i, l)]
			if w == least || !m.isLeast(w[1:]) {
				continue
			}
			// Cloned, since the word of one letter may lie in memory that others see.
			left = append(left, strings.Clone(w))
			right = append(right, strings.Clone(least))
		}
	}
	return left, right
}

// isLeast: is it the least word of its element?
func (m *Monoid) isLeast(w string) bool { return m.words[m.element(w)] == w }
