package green

import (
	"eggbox/api"
	"eggbox/bits"
	"eggbox/graph"
	"eggbox/monoid"
)

const firstLetter = 'a'

// relation says which elements are below which, by one kind, and parts them into classes.
type relation struct {
	classes []int     // the number of each element's class
	members [][]int   // of each class, rising
	below   []api.Set // of each class, those whose elements are below its own
	height  int
}

// relationsOf are a monoid's, by kind.
func relationsOf(m *monoid.Monoid) [api.D + 1]relation {
	n := m.Len()
	r := relate(n, func(i int) []int { return byLetters(m, i, m.Right) })
	l := relate(n, func(i int) []int { return byLetters(m, i, m.Left) })
	j := relate(n, func(i int) []int { return append(byLetters(m, i, m.Right), byLetters(m, i, m.Left)...) })
	h := relate(n, func(i int) []int { return belowBoth(r, l, i) })
	// A monoid is finite here, and so its D classes are its J classes; below by D is below by J, as the document says.
	return [...]relation{api.R: r, api.L: l, api.J: j, api.H: h, api.D: j}
}

// relate makes the relation of the graph in which edges lead from each element to those that are told of it: what a way leads to is below.
func relate(n int, told func(i int) []int) relation {
	edges := make([][]int, n)
	for i := range edges {
		edges[i] = told(i)
	}
	var out relation
	var count int
	// No graph of a monoid is refused: there are no more elements than a graph may have vertices.
	out.classes, count, _ = graph.Components(edges)
	out.below, _ = graph.Above(edges)
	out.height, _ = graph.Depth(edges)
	out.members = make([][]int, count)
	for i, c := range out.classes {
		out.members[c] = append(out.members[c], i)
	}
	return out
}

// byLetters are the products of an element with each letter, on the side of the product that is handed in: products with words are ways of these.
func byLetters(m *monoid.Monoid, i int, product func(i int, letter byte) (int, api.Errno)) []int {
	var out []int
	for l := range m.Letters() {
		to, _ := product(i, firstLetter+byte(l))
		out = append(out, to)
	}
	return out
}

// belowBoth are the elements that are below one by both relations.
func belowBoth(r, l relation, j int) []int {
	var out []int
	for i := range r.classes {
		if r.isBelow(i, j) && l.isBelow(i, j) {
			out = append(out, i)
		}
	}
	return out
}

// isBelow: is i below j?
func (r *relation) isBelow(i, j int) bool { return bits.Has(r.below[r.classes[j]], r.classes[i]) }
