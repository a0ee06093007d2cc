package graph

import (
	"eggbox/api"
	"eggbox/bits"
)

// parts are the components of a graph.
type parts struct {
	of    []int // for each vertex, the number of its component
	count int
	// All vertices, component by component, each behind the other components to which its edges lead.
	closed []int
}

// Marks of the walk: a vertex that is on the way, or hangs together with one, has its place there, from 1 on. That of a closed one is above all places, so that the least of several marks is never it.
const (
	unmetMark  = 0
	closedMark = api.MaxVertices + 1
)

// partsOf walks through the graph once (Tarjan). A vertex is open from when it is met till its component is closed, and a component is closed when the walk leaves the first vertex of it that was met.
func partsOf(next []api.Set) parts {
	p := parts{of: make([]int, len(next))}
	var marks [api.MaxVertices]int
	var open []int
	// walk answers the least place of an open vertex that was met from v on.
	var walk func(v int) int
	walk = func(v int) int {
		open = append(open, v)
		place := len(open)
		marks[v] = place
		least := place
		for _, u := range bits.List(next[v]) {
			mark := marks[u]
			if mark == unmetMark {
				mark = walk(u)
			}
			least = min(least, mark)
		}
		if least == place {
			for _, u := range open[place-1:] {
				marks[u] = closedMark
				p.of[u] = p.count
			}
			p.closed = append(p.closed, open[place-1:]...)
			p.count++
			open = open[:place-1]
		}
		return least
	}
	for v := range next {
		if marks[v] == unmetMark {
			walk(v)
		}
	}
	p.number()
	return p
}

// number gives the components, which have the numbers in whose order they were closed, those of the order of their least vertices.
func (p *parts) number() {
	var numbers [api.MaxVertices]int
	var known api.Set
	for v, c := range p.of {
		if !bits.Has(known, c) {
			numbers[c] = bits.Size(known)
			known = bits.Union(known, only(c))
		}
		p.of[v] = numbers[c]
	}
}

// between tells visit of each edge that leads from a component to another one, and of those that lead on from there ahead of it.
func (p parts) between(next []api.Set, visit func(c, d int)) {
	for _, v := range p.closed {
		for _, u := range bits.List(next[v]) {
			if p.of[v] != p.of[u] {
				visit(p.of[v], p.of[u])
			}
		}
	}
}

// loops is the set of all vertices that have others in their component, or an edge to themselves.
func (p parts) loops(next []api.Set) api.Set {
	var sizes [api.MaxVertices]int
	for _, c := range p.of {
		sizes[c]++
	}
	var out api.Set
	for v, c := range p.of {
		if sizes[c] > 1 || bits.Has(next[v], v) {
			out = bits.Union(out, only(v))
		}
	}
	return out
}
