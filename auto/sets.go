package auto

import (
	"math/bits"

	"eggbox/api"
)

const wordBits = 64

// set is a set of states: s is bit s % 64 of word s / 64. An array, so that it is a key of a map.
type set [api.MaxAuto / wordBits]uint64

func (x *set) add(s int) { x[s/wordBits] |= 1 << (s % wordBits) }

func (x *set) has(s int) bool { return x[s/wordBits]>>(s%wordBits)&1 == 1 }

// meets: is there a state of both sets?
func (x *set) meets(y *set) bool {
	for i := range x {
		if x[i]&y[i] != 0 {
			return true
		}
	}
	return false
}

// acceptedSet is the set of all accepted states.
func acceptedSet(a api.Auto) set {
	var out set
	for s, is := range a.Accept {
		if is {
			out.add(s)
		}
	}
	return out
}

// after is the set of all states to which the letter leads from a set.
func after(a api.Auto, x set, letter int) set {
	var out set
	for i, left := range x {
		for ; left != 0; left &= left - 1 {
			out.add(step(a, i*wordBits+bits.TrailingZeros64(left), letter))
		}
	}
	return out
}

// before is the set of all states from which the letter leads into a set.
func before(a api.Auto, x set, letter int) set {
	var out set
	for s := range a.Accept {
		if x.has(step(a, s, letter)) {
			out.add(s)
		}
	}
	return out
}

// Reverse: of the words that the automaton accepts from behind.
func Reverse(a api.Auto) (api.Auto, api.Errno) {
	if e := Check(a); e != api.OK {
		return api.Auto{}, e
	}
	next := func(x set, letter int) set { return before(a, x, letter) }
	return search(a.Letters, acceptedSet(a), next, func(x set) bool { return x.has(0) })
}

// reading is a state of the automaton that stands first, and the states of the second one in which its words may stand, each begun where a word of the first one ended.
type reading struct {
	first  int
	second set
}

// Concat: of the words of a, each with one of b behind it.
func Concat(a, b api.Auto) (api.Auto, api.Errno) {
	if e := checkTwo(a, b); e != api.OK {
		return api.Auto{}, e
	}
	begun := func(s int, x set) reading {
		if a.Accept[s] {
			x.add(0)
		}
		return reading{s, x}
	}
	next := func(p reading, letter int) reading {
		return begun(step(a, p.first, letter), after(b, p.second, letter))
	}
	ends := acceptedSet(b)
	return search(a.Letters, begun(0, set{}), next, func(p reading) bool { return p.second.meets(&ends) })
}

// Star: of words of a, one behind the other, as many as one likes.
func Star(a api.Auto) (api.Auto, api.Errno) {
	if e := Check(a); e != api.OK {
		return api.Auto{}, e
	}
	ends := acceptedSet(a)
	beginning := set{}
	next := func(x set, letter int) set {
		if x == beginning {
			x.add(0)
		}
		y := after(a, x, letter)
		if y.meets(&ends) {
			y.add(0)
		}
		return y
	}
	return search(a.Letters, beginning, next, func(x set) bool { return x == beginning || x.meets(&ends) })
}
