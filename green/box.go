package green

import (
	"slices"

	"eggbox/api"
	"eggbox/monoid"
)

// eggboxes are those of all D classes, by number.
func (g *Green) eggboxes(m *monoid.Monoid) []api.Box {
	var out []api.Box
	for _, members := range g.relations[api.D].members {
		out = append(out, g.eggbox(m, members))
	}
	return out
}

// eggbox is that of a D class with these elements.
func (g *Green) eggbox(m *monoid.Monoid, members []int) api.Box {
	r, l, h := &g.relations[api.R], &g.relations[api.L], &g.relations[api.H]
	rows, cols := r.met(members), l.met(members)
	cells := make([][]int, len(rows))
	for at := range cells {
		cells[at] = make([]int, len(cols))
	}
	for _, i := range members {
		row, _ := slices.BinarySearch(rows, r.classes[i])
		col, _ := slices.BinarySearch(cols, l.classes[i])
		cells[row][col] = h.classes[i]
	}
	return api.Box{
		Rows: len(rows),
		Cols: len(cols),
		// By Green's lemma all H classes of a D class have as many elements as this one.
		Each:    len(h.members[cells[0][0]]),
		Regular: slices.ContainsFunc(members, func(i int) bool { return isIdempotent(m, i) }),
		Cells:   cells,
	}
}

// met are the numbers of the classes that these elements are in, rising.
func (r *relation) met(elements []int) []int {
	var out []int
	for _, i := range elements {
		out = append(out, r.classes[i])
	}
	slices.Sort(out)
	return slices.Compact(out)
}

// isIdempotent: is the element its own square?
func isIdempotent(m *monoid.Monoid, i int) bool {
	square, _ := m.Product(i, i)
	return square == i
}

// fresh is the box in new memory.
func fresh(b api.Box) api.Box {
	cells := make([][]int, len(b.Cells))
	for row, old := range b.Cells {
		cells[row] = make([]int, len(old))
		copy(cells[row], old)
	}
	b.Cells = cells
	return b
}
