package graph

import (
	"slices"

	"eggbox/api"
	"eggbox/bits"
)

// search goes from a vertex to all others that are met from it, the nearer ones first, those of one distance by their least ways. It tells meet of each one, and of the vertex ahead of it on that way, till meet answers false.
func search(next []api.Set, from int, meet func(v, ahead int) bool) {
	met := only(from)
	queue := []int{from}
walk:
	for at := 0; at < len(queue); at++ {
		ahead := queue[at]
		fresh := bits.Minus(next[ahead], met)
		met = bits.Union(met, fresh)
		for _, v := range bits.List(fresh) {
			if !meet(v, ahead) {
				break walk
			}
			queue = append(queue, v)
		}
	}
}

// shortest is the least one of the shortest ways, and whether there is one.
func shortest(next []api.Set, from, to int) ([]int, bool) {
	if from == to {
		return []int{from}, true
	}
	found := false
	var aheadOf [api.MaxVertices]int
	search(next, from, func(v, ahead int) bool {
		aheadOf[v] = ahead
		found = v == to
		return !found
	})
	if !found {
		return nil, false
	}
	out := []int{to}
	for v := to; v != from; {
		v = aheadOf[v]
		out = append(out, v)
	}
	slices.Reverse(out)
	return out, true
}
