package auto

import (
	"eggbox/api"
	"eggbox/word"
)

// from is the automaton in order of the states that are met from this one, which are never too many.
func from(a api.Auto, first int, accepted func(s int) bool) (api.Auto, api.Errno) {
	next := func(s, letter int) int { return step(a, s, letter) }
	return search(a.Letters, first, next, accepted)
}

// Reach: the states that are met from 0, in order.
func Reach(a api.Auto) (api.Auto, api.Errno) {
	return Ahead(a, "")
}

// Ahead: what is left of the words that begin with w, without this beginning.
func Ahead(a api.Auto, w string) (api.Auto, api.Errno) {
	if e := checkWord(a, w); e != api.OK {
		return api.Auto{}, e
	}
	return from(a, lead(a, 0, w), func(s int) bool { return a.Accept[s] })
}

// Behind: what is left of the words that end with w, without this end.
func Behind(a api.Auto, w string) (api.Auto, api.Errno) {
	if e := checkWord(a, w); e != api.OK {
		return api.Auto{}, e
	}
	out, e := Reach(a)
	// Letter by letter for all states at once: a long word is gone through once, not once a state.
	for i := len(w) - 1; i >= 0; i-- {
		out.Accept = acceptedBefore(out, int(w[i]-firstLetter))
	}
	return out, e
}

// acceptedBefore tells from which states the letter leads to an accepted one.
func acceptedBefore(a api.Auto, letter int) []bool {
	out := make([]bool, len(a.Accept))
	for s := range out {
		out[s] = a.Accept[step(a, s, letter)]
	}
	return out
}

// Not: of all words that the automaton does not accept.
func Not(a api.Auto) (api.Auto, api.Errno) {
	if e := Check(a); e != api.OK {
		return api.Auto{}, e
	}
	return from(a, 0, func(s int) bool { return !a.Accept[s] })
}

// Word: of this word alone.
func Word(k int, w string) (api.Auto, api.Errno) {
	if e := word.Check(k, w); e != api.OK {
		return api.Auto{}, e
	}
	if len(w) > api.MaxAuto-2 {
		return api.Auto{}, api.ErrSize
	}
	// The states are the lengths of w's beginnings, and one more for what is none of them.
	none := len(w) + 1
	next := func(s, letter int) int {
		if s < len(w) && int(w[s]-firstLetter) == letter {
			return s + 1
		}
		return none
	}
	return search(k, 0, next, func(s int) bool { return s == len(w) })
}
