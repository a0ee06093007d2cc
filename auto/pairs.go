package auto

import "eggbox/api"

// pair is a state of each of two automata, to which the same word leads.
type pair struct{ first, second int }

// Both: of the words that are of both languages.
func Both(a, b api.Auto) (api.Auto, api.Errno) {
	return product(a, b, func(first, second bool) bool { return first && second })
}

// Either: of the words that are of one of the languages, or of both.
func Either(a, b api.Auto) (api.Auto, api.Errno) {
	return product(a, b, func(first, second bool) bool { return first || second })
}

// But: of the words of the first language that are not of the second one.
func But(a, b api.Auto) (api.Auto, api.Errno) {
	return product(a, b, func(first, second bool) bool { return first && !second })
}

func product(a, b api.Auto, accepted func(first, second bool) bool) (api.Auto, api.Errno) {
	if e := checkTwo(a, b); e != api.OK {
		return api.Auto{}, e
	}
	next := func(p pair, letter int) pair {
		return pair{step(a, p.first, letter), step(b, p.second, letter)}
	}
	return search(a.Letters, pair{}, next, func(p pair) bool {
		return accepted(a.Accept[p.first], b.Accept[p.second])
	})
}
