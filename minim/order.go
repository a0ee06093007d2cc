package minim

import (
	"slices"

	"eggbox/api"
)

// notMet is the number of a class to which no word leads from 0.
const notMet = -1

// inOrder is the automaton in order of the classes that are met from that of 0, and the number of each class in it.
func inOrder(a api.Auto, classes []int) (api.Auto, []int) {
	out := api.Auto{Letters: a.Letters}
	numbers := slices.Repeat([]int{notMet}, len(classes))
	// No state is less than 0, so its class goes by it.
	numbers[0] = 0
	met := []int{0}
	// The classes are gone through as they were met, and their letters from a on: so each is met by its least word first.
	for at := 0; at < len(met); at++ {
		for letter := range a.Letters {
			to := classes[step(a, met[at], letter)]
			if numbers[to] == notMet {
				numbers[to] = len(met)
				met = append(met, to)
			}
			out.Next = append(out.Next, numbers[to])
		}
		out.Accept = append(out.Accept, a.Accept[met[at]])
	}
	return out, numbers
}
