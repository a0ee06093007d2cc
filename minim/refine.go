package minim

import (
	"slices"

	"eggbox/api"
)

// signature is what parts two states: their own classes so far, and those to which the letters lead. A class goes by its least state, which 16 bits hold, so that a key of the map is short.
type signature struct {
	class uint16
	next  [api.MaxLetters]uint16
}

// refined is, for each state, the least one that accepts the same words of at most n letters.
func refined(a api.Auto, n int) []int {
	classes := byAccept(a)
rounds:
	for range n {
		finer := byLetters(a, classes)
		for s := range finer {
			if finer[s] != classes[s] {
				classes = finer
				continue rounds
			}
		}
		// Where one round parts nothing, no later one does: n may be far beyond that.
		break rounds
	}
	return classes
}

// byAccept parts the states by whether they accept the empty word.
func byAccept(a api.Auto) []int {
	out := make([]int, len(a.Accept))
	for s, is := range a.Accept {
		out[s] = slices.Index(a.Accept, is)
	}
	return out
}

// byLetters parts each class by the classes to which the letters lead.
func byLetters(a api.Auto, classes []int) []int {
	out := make([]int, len(classes))
	members := sizes(classes)
	least := map[signature]int{}
	for s, class := range classes {
		out[s] = s
		// A state that is alone has nothing to be parted from; signing it all the same would double or treble the time.
		if members[class] == 1 {
			continue
		}
		key := signed(a, classes, s)
		if first, known := least[key]; known {
			out[s] = first
		} else {
			least[key] = s
		}
	}
	return out
}

// sizes is, for each class, how many states it has.
func sizes(classes []int) []int {
	out := make([]int, len(classes))
	for _, class := range classes {
		out[class]++
	}
	return out
}

func signed(a api.Auto, classes []int, s int) signature {
	out := signature{class: uint16(classes[s])}
	for letter := range a.Letters {
		out.next[letter] = uint16(classes[step(a, s, letter)])
	}
	return out
}
