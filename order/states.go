package order

import (
	"slices"

	"eggbox/api"
	"eggbox/bits"
)

// aboveIn is, for each state, the set of those from which all is accepted that is accepted from it. A set begins with all states that the empty word leaves in it; what falls away from one makes states fall away from others, until nothing does any more.
func aboveIn(a api.Auto) []api.Set {
	above := byEmptyWord(a.Accept)
rounds:
	for {
		before := slices.Clone(above)
		// More often than not a letter leads to a later state: from the last one on, most is done in few rounds.
		for s := len(above) - 1; s >= 0; s-- {
			above[s] = kept(a, above, s)
		}
		for s, set := range above {
			if set != before[s] {
				continue rounds
			}
		}
		return above
	}
}

// byEmptyWord is, for each state, the set of those that accept the empty word if it does.
func byEmptyWord(accept []bool) []api.Set {
	all, _ := bits.Below(len(accept))
	var accepted api.Set
	for s, is := range accept {
		if is {
			accepted, _ = bits.With(accepted, s)
		}
	}
	out := make([]api.Set, len(accept))
	for s, is := range accept {
		out[s] = all
		if is {
			out[s] = accepted
		}
	}
	return out
}

// kept are those of a state's set that no letter takes out.
func kept(a api.Auto, above []api.Set, s int) api.Set {
	out := above[s]
	for t := range above {
		if bits.Has(out, t) && takesOut(a, above, s, t) {
			out, _ = bits.Without(out, t)
		}
	}
	return out
}

// takesOut: does a letter lead from t out of the set of the state to which it leads from s?
func takesOut(a api.Auto, above []api.Set, s, t int) bool {
	for l := range a.Letters {
		if !bits.Has(above[a.Next[s*a.Letters+l]], a.Next[t*a.Letters+l]) {
			return true
		}
	}
	return false
}

// likeIn is, for each state, the least one of the same language: those have the same states above them.
func likeIn(above []api.Set) []int {
	out := make([]int, len(above))
	for s, set := range above {
		out[s] = slices.Index(above, set)
	}
	return out
}
