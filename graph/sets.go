package graph

import (
	"eggbox/api"
	"eggbox/bits"
)

func isVertex(g [][]int, v int) bool { return v >= 0 && v < len(g) }

// nextSets is, for each vertex, the set of those to which edges lead: so an edge that stands a million times is walked once, and what follows a vertex is met rising. Check's error, if it may not be; then ErrNone, if one of the vertices that are asked of is none.
func nextSets(g [][]int, asked ...int) ([]api.Set, api.Errno) {
	if e := Check(g); e != api.OK {
		return nil, e
	}
	for _, v := range asked {
		if !isVertex(g, v) {
			return nil, api.ErrNone
		}
	}
	out := make([]api.Set, len(g))
	for v, list := range g {
		// Check has let through numbers of a set alone.
		out[v], _ = bits.Of(list)
	}
	return out, api.OK
}

// only is the set of one vertex, or of one component's number.
func only(i int) api.Set {
	out, _ := bits.With(api.Set{}, i)
	return out
}
