package auto

import "eggbox/api"

// search makes the automaton in order of all states, of whatever type, that are met from the first one: next answers where a letter leads, accepted which states are. ErrStates, if they are too many.
func search[S comparable](letters int, first S, next func(s S, letter int) S, accepted func(s S) bool) (api.Auto, api.Errno) {
	out := api.Auto{Letters: letters}
	met := []S{first}
	numbers := map[S]int{first: 0}
	// The states are gone through as they were met, and their letters from a on: so each is met by its least word first.
	for at := 0; at < len(met); at++ {
		for letter := range letters {
			to := next(met[at], letter)
			number, known := numbers[to]
			if !known {
				if len(met) == api.MaxAuto {
					return api.Auto{}, api.ErrStates
				}
				number = len(met)
				numbers[to] = number
				met = append(met, to)
			}
			out.Next = append(out.Next, number)
		}
		out.Accept = append(out.Accept, accepted(met[at]))
	}
	return out, api.OK
}
