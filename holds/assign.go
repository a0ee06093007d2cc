package holds

import "eggbox/api"

// fits: are there at most MaxWork assignments of so many variables out of a list of that length?
func fits(length, variables int) bool {
	all := 1
	for range variables {
		if length > 0 && all > api.MaxWork/length {
			return false
		}
		all *= length
	}
	return true
}

// assignments goes through them in their order, as places in a list of that length, and tells with each the first variable that stands for something else than in the one ahead of it. It goes on with its own list, which whoever is handed it neither keeps nor changes.
func assignments(length, variables int) func(yield func(changed int, at []int) bool) {
	return func(yield func(changed int, at []int) bool) {
		if length == 0 && variables > 0 {
			return
		}
		at := make([]int, variables)
		for changed := 0; changed >= 0; changed = next(at, length) {
			if !yield(changed, at) {
				return
			}
		}
	}
}

// next makes the assignment the one behind it, and answers the first place that has changed: -1, if it was the last one.
func next(at []int, length int) int {
	i := len(at) - 1
	for ; i >= 0 && at[i] == length-1; i-- {
		at[i] = 0
	}
	if i >= 0 {
		at[i]++
	}
	return i
}
