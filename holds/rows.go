package holds

import (
	"strings"

	"eggbox/api"
	"eggbox/monoid"
	"eggbox/terms"
)

// piece is a part of a side: what ends with that sign.
type piece struct {
	sign  api.Sign
	parts []int    // which pieces it is made of
	row   []uint16 // which element it is, for each one that may stand for the last variable; one alone, if it is the same for all
}

// rows tell which element a piece is. There may be millions of assignments, so that is worked out for all that may stand for the last variable at one go, and serves till another variable stands for something else. Elements are below MaxElems, so that two bytes each are enough.
type rows struct {
	size     int      // how many elements there are
	products []uint16 // of i and j at i*size + j
	omegas   []uint16 // of each element

	names  string   // the variables
	chosen []uint16 // what may stand for them
	at     []int    // what does: places in chosen

	pieces []piece
	known  []bool // whose rows are worked out, for what stands for the variables ahead of the last one
}

// newRows has no pieces so far.
func newRows(m *monoid.Monoid, names string, list []int) rows {
	r := rows{size: m.Len(), products: productsOf(m), omegas: omegasOf(m), names: names}
	met := make([]bool, r.size)
	for _, i := range list {
		if !met[i] {
			met[i] = true
			r.chosen = append(r.chosen, uint16(i))
		}
	}
	return r
}

func productsOf(m *monoid.Monoid) []uint16 {
	n := m.Len()
	out := make([]uint16, 0, n*n)
	for i := range n {
		for j := range n {
			product, _ := m.Product(i, j)
			out = append(out, uint16(product))
		}
	}
	return out
}

func omegasOf(m *monoid.Monoid) []uint16 {
	side := []api.Sign{{Kind: api.Var, Name: 'x'}, {Kind: api.Omega}}
	out := make([]uint16, m.Len())
	for i := range out {
		omega, _ := terms.Value(m, side, []int{i})
		out[i] = uint16(omega)
	}
	return out
}

// lay makes a side's pieces, and answers the one that is all of it.
func (r *rows) lay(side []api.Sign) int {
	var waiting []int // pieces that are no piece's part so far
	for _, s := range side {
		rest := len(waiting) - partsOf(s.Kind)
		parts := append([]int(nil), waiting[rest:]...)
		waiting = append(waiting[:rest], len(r.pieces))
		r.pieces = append(r.pieces, piece{s, parts, make([]uint16, r.length(s, parts))})
		r.known = append(r.known, false)
	}
	return len(r.pieces) - 1
}

func partsOf(kind int) int {
	switch kind {
	case api.Mul:
		return 2
	case api.Omega:
		return 1
	}
	return 0
}

// length is that of the row of a piece: one, if the last variable is not in it.
func (r *rows) length(s api.Sign, parts []int) int {
	out := 1
	if s.Kind == api.Var && r.place(s.Name) == r.last() {
		out = len(r.chosen)
	}
	for _, p := range parts {
		out = max(out, len(r.pieces[p].row))
	}
	return out
}

// place is a variable's place in an assignment, last that of the last one: -1, if there is none.
func (r *rows) place(name byte) int { return strings.IndexByte(r.names, name) }

func (r *rows) last() int { return len(r.names) - 1 }

// turn goes to an assignment of which all ahead of the place that has changed is as it was.
func (r *rows) turn(changed int, at []int) {
	r.at = at
	if changed < r.last() {
		clear(r.known)
	}
}

// values are the elements that the assignment has.
func (r *rows) values() []int {
	out := make([]int, len(r.at))
	for i, place := range r.at {
		out[i] = int(r.chosen[place])
	}
	return out
}

// value is the element that a piece is, at the assignment.
func (r *rows) value(piece int) int {
	row := r.row(piece)
	if len(row) == 1 {
		return int(row[0])
	}
	return int(row[r.at[r.last()]])
}

// row is that of a piece, worked out.
func (r *rows) row(piece int) []uint16 {
	p := &r.pieces[piece]
	if r.known[piece] {
		return p.row
	}
	r.known[piece] = true
	switch p.sign.Kind {
	case api.Var:
		r.put(p.row, r.place(p.sign.Name))
	case api.Mul:
		r.multiply(p.row, r.row(p.parts[0]), r.row(p.parts[1]))
	case api.Omega:
		for i, part := range r.row(p.parts[0]) {
			p.row[i] = r.omegas[part]
		}
	}
	// That of One stays as it was made: the identity is the element 0.
	return p.row
}

// put writes what stands for the variable of that place.
func (r *rows) put(row []uint16, place int) {
	if place == r.last() {
		copy(row, r.chosen)
		return
	}
	row[0] = r.chosen[r.at[place]]
}

// multiply writes the products of two rows, of which one may have an element alone.
func (r *rows) multiply(row, first, second []uint16) {
	switch {
	case len(first) == 1:
		products := r.products[int(first[0])*r.size:]
		for i := range row {
			row[i] = products[second[i]]
		}
	case len(second) == 1:
		products := r.products[second[0]:]
		for i := range row {
			row[i] = products[int(first[i])*r.size]
		}
	default:
		for i := range row {
			row[i] = r.products[int(first[i])*r.size+int(second[i])]
		}
	}
}
