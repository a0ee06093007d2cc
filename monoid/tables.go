package monoid

// grid is a table of elements: rows of so many columns, one behind the other. Elements are below MaxElems, so that two bytes each are enough.
type grid struct {
	cols int
	list []uint16
}

func (g grid) at(row, col int) int { return int(g.list[row*g.cols+col]) }

func (g grid) row(r int) []uint16 {
	first, end := r*g.cols, (r+1)*g.cols
	return g.list[first:end:end]
}

// tables are what a letter behind each element, and ahead of it, makes of it, and the products of all two: the layers above ask for them by the million.
type tables struct{ right, left, product grid }

// lay makes the tables, cut out of one list.
func (f *finding) lay() tables {
	n := len(f.ways)
	rest := make([]uint16, n*(2*f.letters+n))
	cut := func(cols int) grid {
		out := grid{cols, rest[: n*cols : n*cols]}
		rest = rest[n*cols:]
		return out
	}
	out := tables{cut(f.letters), cut(f.letters), cut(n)}
	copy(out.right.list, f.right)
	for i := range n {
		f.multiply(i, out.right, out.product.row(i))
	}
	for i := range n {
		row := out.left.row(i)
		for l := range row {
			row[l] = uint16(out.product.at(out.right.at(0, l), i))
		}
	}
	return out
}

// multiply fills the row of an element's products: each is that with the second one's least word less its last letter, and this letter behind it.
func (f *finding) multiply(i int, right grid, row []uint16) {
	row[0] = uint16(i)
	for j, w := range f.ways[1:] {
		row[j+1] = uint16(right.at(int(row[w.from]), w.letter))
	}
}
