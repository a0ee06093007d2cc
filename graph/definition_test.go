package graph_test

import (
	"slices"

	"eggbox/api"
)

// plain is what the chapter's sentences say of a graph.
type plain struct {
	of     []int // the number of each vertex's component
	count  int
	reach  []api.Set
	loops  api.Set
	above  []api.Set
	path   func(from, to int) []int // of the shortest ways the least one; nil, if there is none
	depth  int
	turned [][]int
}

// ways are all ways of at most n edges. (One that goes through all that it can has no more edges than there are vertices, unless it goes somewhere twice.)
func ways(g [][]int, n int) [][]int {
	var out [][]int
	for v := range g {
		out = append(out, []int{v})
	}
	for at := 0; at < len(out) && len(out[at]) <= n; at++ {
		way := out[at]
		for _, v := range g[way[len(way)-1]] {
			out = append(out, append(slices.Clone(way), v))
		}
	}
	return out
}

// byWays asks all ways of a small graph.
func byWays(g [][]int) plain {
	n := len(g)
	p := plain{reach: make([]api.Set, n), turned: plainTurned(g)}
	least := map[[2]int][]int{}
	p.path = func(from, to int) []int { return least[[2]int{from, to}] }
	all := ways(g, n)
	for _, way := range all {
		from, to := way[0], way[len(way)-1]
		p.reach[from] = put(p.reach[from], to)
		if len(way) > 1 && from == to {
			p.loops = put(p.loops, from)
		}
		if old := p.path(from, to); old == nil || len(way) < len(old) || len(way) == len(old) && slices.Compare(way, old) < 0 {
			least[[2]int{from, to}] = way
		}
	}
	p.number()
	for _, way := range all {
		p.depth = max(p.depth, p.through(way)-1)
	}
	p.order()
	return p
}

// number gives the components numbers, by the reach of each vertex.
func (p *plain) number() {
	p.of = make([]int, len(p.reach))
	for v := range p.of {
		first := slices.IndexFunc(numbers(v+1), func(u int) bool { return has(p.reach[u], v) && has(p.reach[v], u) })
		if first < v {
			p.of[v] = p.of[first]
			continue
		}
		p.of[v] = p.count
		p.count++
	}
}

// through is how many components a way goes through.
func (p *plain) through(way []int) int {
	var met api.Set
	n := 0
	for _, v := range way {
		if !has(met, p.of[v]) {
			n++
		}
		met = put(met, p.of[v])
	}
	return n
}

// order enters which components each one reaches, by the reach of each vertex.
func (p *plain) order() {
	p.above = make([]api.Set, p.count)
	for v, s := range p.reach {
		for u := range p.reach {
			if has(s, u) {
				p.above[p.of[v]] = put(p.above[p.of[v]], p.of[u])
			}
		}
	}
}

// plainTurned enters each edge the other way round, and sorts.
func plainTurned(g [][]int) [][]int {
	out := make([][]int, len(g))
	for v := range g {
		for _, u := range g[v] {
			out[u] = append(out[u], v)
		}
	}
	for _, list := range out {
		slices.Sort(list)
	}
	return out
}

// has and put read and write a set bit by bit.
func has(s api.Set, i int) bool { return s[i/64]>>(i%64)&1 == 1 }

func put(s api.Set, i int) api.Set {
	s[i/64] |= 1 << (i % 64)
	return s
}

// far is a distance that no way has.
const far = 1 << 30

// distances is, for each two vertices, how many edges the shortest way has (Floyd, Warshall); far, if there is none.
func distances(g [][]int) [][]int {
	out := make([][]int, len(g))
	for v := range out {
		out[v] = slices.Repeat([]int{far}, len(g))
		for _, u := range g[v] {
			out[v][u] = 1
		}
		out[v][v] = 0
	}
	for mid := range out {
		for v := range out {
			if out[v][mid] == far {
				continue
			}
			for u := range out {
				out[v][u] = min(out[v][u], out[v][mid]+out[mid][u])
			}
		}
	}
	return out
}

// byDistances asks the distances, for graphs that have too many ways.
func byDistances(g [][]int) plain {
	n := len(g)
	p := plain{reach: make([]api.Set, n), turned: plainTurned(g)}
	distance := distances(g)
	p.path = func(from, to int) []int { return nearing(g, distance, from, to) }
	for v := range n {
		for u := range n {
			if distance[v][u] < far {
				p.reach[v] = put(p.reach[v], u)
			}
		}
	}
	for v, list := range g {
		for _, u := range list {
			if has(p.reach[u], v) {
				p.loops = put(p.loops, v)
			}
		}
	}
	p.number()
	p.order()
	p.depth = p.longest()
	return p
}

// nearing goes from vertex to vertex, each the least one that is nearer by one.
func nearing(g, distance [][]int, from, to int) []int {
	if distance[from][to] == far {
		return nil
	}
	out := []int{from}
	for v := from; v != to; {
		nearer := far
		for _, u := range g[v] {
			if distance[u][to] == distance[v][to]-1 {
				nearer = min(nearer, u)
			}
		}
		v = nearer
		out = append(out, v)
	}
	return out
}

// longest is how many components stand one above the other, less 1: they are gone through from those that reach the fewest on.
func (p *plain) longest() int {
	sizes := make([]int, p.count)
	for c := range sizes {
		for d := range p.count {
			if has(p.above[c], d) {
				sizes[c]++
			}
		}
	}
	order := numbers(p.count)
	slices.SortFunc(order, func(c, d int) int { return sizes[c] - sizes[d] })
	depths := make([]int, p.count)
	deepest := 0
	for _, c := range order {
		for d := range p.count {
			if d != c && has(p.above[c], d) {
				depths[c] = max(depths[c], depths[d]+1)
			}
		}
		deepest = max(deepest, depths[c])
	}
	return deepest
}
