package graph_test

import (
	"slices"
	"testing"

	"eggbox/api"
	"eggbox/graph"
)

// reachOf is Reach of each vertex.
func reachOf(t *testing.T, g [][]int) []api.Set {
	t.Helper()
	var out []api.Set
	for v := range g {
		s, e := graph.Reach(g, v)
		isOK(t, "Reach of "+brief(g), e)
		out = append(out, s)
	}
	return out
}

// TestP1105Components: two vertices are of one component just where each is in the other's Reach.
func TestP1105Components(t *testing.T) {
	for _, g := range everySample() {
		of, count, e := graph.Components(g)
		isOK(t, "Components of "+brief(g), e)
		reach := reachOf(t, g)
		for v := range g {
			if of[v] < 0 || of[v] >= count {
				t.Fatalf("%s: the component of %d is %d, of %d", brief(g), v, of[v], count)
			}
			for u := range g {
				if (of[v] == of[u]) != (has(reach[v], u) && has(reach[u], v)) {
					t.Fatalf("%s: %d and %d are of the components %d and %d", brief(g), v, u, of[v], of[u])
				}
			}
		}
	}
}

// TestP1103LeastVertices: a component's number is that of the least vertices ahead of its own, and all numbers are there.
func TestP1103LeastVertices(t *testing.T) {
	for _, g := range everySample() {
		of, count, _ := graph.Components(g)
		known := 0
		for v := range g {
			if of[v] > known {
				t.Fatalf("%s: %d is of the component %d, and only %d were met", brief(g), v, of[v], known)
			}
			if of[v] == known {
				known++
			}
		}
		if known != count {
			t.Fatalf("%s has %d components, and tells of %d", brief(g), known, count)
		}
	}
}

// TestP1105Above: an order on components: each is above itself, no two are above each other, and what is above what is above is above.
func TestP1105Above(t *testing.T) {
	for _, g := range everySample() {
		above, e := graph.Above(g)
		isOK(t, "Above of "+brief(g), e)
		for c, s := range above {
			if !has(s, c) {
				t.Fatalf("%s: %d is not above itself", brief(g), c)
			}
			for d := range 512 {
				if !has(s, d) {
					continue
				}
				if d >= len(above) || d != c && has(above[d], c) {
					t.Fatalf("%s: %d has %d above it", brief(g), c, d)
				}
				for i, word := range above[d] {
					if word&^s[i] != 0 {
						t.Fatalf("%s: %d has %d above it, and not all that is above that", brief(g), c, d)
					}
				}
			}
		}
	}
}

// TestP1105AboveIsReach: a component is above another one just where its vertices are in the Reach of the other's.
func TestP1105AboveIsReach(t *testing.T) {
	for _, g := range everySample() {
		of, _, _ := graph.Components(g)
		above, _ := graph.Above(g)
		for v, s := range reachOf(t, g) {
			for u := range g {
				if has(s, u) != has(above[of[v]], of[u]) {
					t.Fatalf("%s: %d and %d, of the components %d and %d", brief(g), v, u, of[v], of[u])
				}
			}
		}
	}
}

// turnedRound is a relation of components, turned round.
func turnedRound(above []api.Set) []api.Set {
	out := make([]api.Set, len(above))
	for c, s := range above {
		for d := range out {
			if has(s, d) {
				out[d] = put(out[d], c)
			}
		}
	}
	return out
}

// TestP1106TurnKeeps: the components, Loops and Depth are the same, Above is turned round.
func TestP1106TurnKeeps(t *testing.T) {
	for _, g := range everySample() {
		turned, e := graph.Turn(g)
		isOK(t, "Turn of "+brief(g), e)
		of, count, _ := graph.Components(g)
		divides(t, turned, of, count)
		loops, _ := graph.Loops(g)
		turnsBack(t, turned, loops)
		depth, _ := graph.Depth(g)
		goesThrough(t, turned, depth)
		above, _ := graph.Above(g)
		stands(t, turned, turnedRound(above)...)
		reach := reachOf(t, g)
		for v, s := range reachOf(t, turned) {
			for u := range g {
				if has(s, u) != has(reach[u], v) {
					t.Fatalf("%s: from %d to %d, and turned", brief(g), v, u)
				}
			}
		}
		if t.Failed() {
			return
		}
	}
}

// TestP1106TurnOfTurn: each list of g, rising.
func TestP1106TurnOfTurn(t *testing.T) {
	for _, g := range everySample() {
		turned, _ := graph.Turn(g)
		for v, list := range turned {
			if !slices.IsSorted(list) {
				t.Fatalf("Turn of %s has %s for %d", brief(g), shortList(list), v)
			}
		}
		should := clone(g)
		for _, list := range should {
			slices.Sort(list)
		}
		turns(t, turned, should)
	}
}

// TestP1106PathTurned: a way turned round is one of the turned graph, so the shortest ones have one length.
func TestP1106PathTurned(t *testing.T) {
	for i, g := range slices.Concat(small(), middling()) {
		if i%5 > 0 {
			continue
		}
		turned, _ := graph.Turn(g)
		for v := range g {
			for u := range g {
				way, found, _ := graph.Path(g, v, u)
				back, foundBack, _ := graph.Path(turned, u, v)
				if found != foundBack || len(way) != len(back) {
					t.Fatalf("%s: from %d to %d by %s, and turned by %s", brief(g), v, u, shortList(way), shortList(back))
				}
			}
		}
	}
}
