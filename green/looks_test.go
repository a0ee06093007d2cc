package green_test

import (
	"slices"
	"testing"

	"eggbox/api"
	"eggbox/green"
	"eggbox/monoid"
)

// counts holds how many classes there are of R, L, J, H, D.
func counts(t *testing.T, name string, g *green.Green, should [5]int) {
	t.Helper()
	var got [5]int
	for at, kind := range kinds {
		got[at] = must[int](t)(g.Count(kind))
	}
	if got != should {
		t.Errorf("%s: of R, L, J, H, D there are %v classes; should be %v", name, got, should)
	}
}

// heights holds those of R, L, J, H, D.
func heights(t *testing.T, name string, g *green.Green, should [5]int) {
	t.Helper()
	var got [5]int
	for at, kind := range kinds {
		got[at] = must[int](t)(g.Height(kind))
	}
	if got != should {
		t.Errorf("%s: the heights by R, L, J, H, D are %v; should be %v", name, got, should)
	}
}

// divides holds the classes of a kind.
func divides(t *testing.T, name string, g *green.Green, kind int, should ...[]int) {
	t.Helper()
	if n := must[int](t)(g.Count(kind)); n != len(should) {
		t.Fatalf("%s: Count(%d) is %d; should be %d", name, kind, n, len(should))
	}
	for c, class := range should {
		if got := must[[]int](t)(g.Members(kind, c)); !slices.Equal(got, class) {
			t.Errorf("%s: Members(%d, %d) is %v; should be %v", name, kind, c, got, class)
		}
		for _, i := range class {
			if got := must[int](t)(g.Class(kind, i)); got != c {
				t.Errorf("%s: Class(%d, %d) is %d; should be %d", name, kind, i, got, c)
			}
		}
	}
}

// boxed holds a D class's eggbox.
func boxed(t *testing.T, name string, g *green.Green, c int, should api.Box) {
	t.Helper()
	if got := must[api.Box](t)(g.Box(c)); !sameBox(got, should) {
		t.Errorf("%s: Box(%d) is %v; should be %v", name, c, got, should)
	}
}

// shaped holds a D class's eggbox without its cells.
func shaped(t *testing.T, name string, g *green.Green, c, rows, cols, each int, regular bool) {
	t.Helper()
	got := must[api.Box](t)(g.Box(c))
	wide := slices.ContainsFunc(got.Cells, func(line []int) bool { return len(line) != cols })
	if got.Rows != rows || got.Cols != cols || got.Each != each || got.Regular != regular || len(got.Cells) != rows || wide {
		t.Errorf("%s: Box(%d) is %v; should be %d by %d, each %d, %v", name, c, got, rows, cols, each, regular)
	}
}

func TestP1502Examples(t *testing.T) {
	const name = "(ab)*"
	m := built(t, pairs())
	g := made(t, m)
	for i, w := range []string{"", "a", "b", "aa", "ab", "ba"} {
		if got := must[int](t)(m.Element(w)); got != i {
			t.Fatalf("%q is the element %d", w, got)
		}
	}
	divides(t, name, g, api.R, []int{0}, []int{1, 4}, []int{2, 5}, []int{3})
	divides(t, name, g, api.L, []int{0}, []int{1, 5}, []int{2, 4}, []int{3})
	divides(t, name, g, api.J, []int{0}, []int{1, 2, 4, 5}, []int{3})
	divides(t, name, g, api.D, []int{0}, []int{1, 2, 4, 5}, []int{3})
	divides(t, name, g, api.H, []int{0}, []int{1}, []int{2}, []int{3}, []int{4}, []int{5})
	counts(t, name, g, [5]int{4, 4, 3, 6, 3})
	heights(t, name, g, [5]int{2, 2, 2, 2, 2})
	if !must[bool](t)(g.Below(api.R, 4, 1)) {
		t.Error("ab is not below a")
	}
	if must[bool](t)(g.Below(api.R, 1, 2)) {
		t.Error("a is below b")
	}
	if c, e := g.Class(6, 0); c != 0 || e != api.ErrArg {
		t.Errorf("Class(6, 0) is %d, %d", c, e)
	}
}

func TestP1503Examples(t *testing.T) {
	const name = "(ab)*"
	g := made(t, built(t, pairs()))
	boxed(t, name, g, 0, api.Box{Rows: 1, Cols: 1, Each: 1, Regular: true, Cells: [][]int{{0}}})
	boxed(t, name, g, 1, api.Box{Rows: 2, Cols: 2, Each: 1, Regular: true, Cells: [][]int{{1, 4}, {5, 2}}})
	boxed(t, name, g, 2, api.Box{Rows: 1, Cols: 1, Each: 1, Regular: true, Cells: [][]int{{3}}})
}

func TestP1502P1503OneElement(t *testing.T) {
	for k := 1; k <= 8; k++ {
		for _, a := range []api.Auto{still(k, 1), still(k, 64)} {
			g := made(t, built(t, a))
			counts(t, brief(a), g, [5]int{1, 1, 1, 1, 1})
			heights(t, brief(a), g, [5]int{})
			for _, kind := range kinds {
				divides(t, brief(a), g, kind, []int{0})
				if !must[bool](t)(g.Below(kind, 0, 0)) {
					t.Errorf("%s: Below(%d, 0, 0) is false", brief(a), kind)
				}
			}
			boxed(t, brief(a), g, 0, api.Box{Rows: 1, Cols: 1, Each: 1, Regular: true, Cells: [][]int{{0}}})
		}
	}
}

func TestP1502P1503Groups(t *testing.T) {
	for _, a := range []api.Auto{counters(2), counters(3, 5), turns(3), turns(5), beside(1, part{0, 0, 64}), counters(2, 2, 2, 2, 2, 2, 2, 4), powers(0)} {
		m := built(t, a)
		g := made(t, m)
		counts(t, brief(a), g, [5]int{1, 1, 1, 1, 1})
		heights(t, brief(a), g, [5]int{})
		for _, kind := range kinds {
			divides(t, brief(a), g, kind, numbers(m.Len()))
		}
		boxed(t, brief(a), g, 0, api.Box{Rows: 1, Cols: 1, Each: m.Len(), Regular: true, Cells: [][]int{{0}}})
	}
}

// TestP1502P1503Powers: a^0 to a^7 stand one below the other, each alone; those from a^8 on are a group of 504 with the idempotent a^504.
func TestP1502P1503Powers(t *testing.T) {
	const name = "512 powers"
	g := made(t, built(t, powers(8)))
	counts(t, name, g, [5]int{9, 9, 9, 9, 9})
	heights(t, name, g, [5]int{8, 8, 8, 8, 8})
	for _, kind := range kinds {
		classes := [][]int{{0}, {1}, {2}, {3}, {4}, {5}, {6}, {7}, numbers(512)[8:]}
		divides(t, name, g, kind, classes...)
		for _, p := range [][2]int{{1, 0}, {7, 6}, {8, 7}, {511, 7}, {511, 0}} {
			if !must[bool](t)(g.Below(kind, p[0], p[1])) || must[bool](t)(g.Below(kind, p[1], p[0])) {
				t.Errorf("%v do not stand one below the other by %d", p, kind)
			}
		}
	}
	for c := range 8 {
		boxed(t, name, g, c, api.Box{Rows: 1, Cols: 1, Each: 1, Regular: c == 0, Cells: [][]int{{c}}})
	}
	boxed(t, name, g, 8, api.Box{Rows: 1, Cols: 1, Each: 504, Regular: true, Cells: [][]int{{8}}})
}

// TestP1502P1503MostElementsWithAZero: seven letters are their own squares, the last one's fourth power is its third: each element is a class.
func TestP1502P1503MostElementsWithAZero(t *testing.T) {
	const name = "512 with a zero"
	a := beside(8, part{0, 1, 1}, part{1, 1, 1}, part{2, 1, 1}, part{3, 1, 1}, part{4, 1, 1}, part{5, 1, 1}, part{6, 1, 1}, part{7, 3, 1})
	m := built(t, a)
	g := made(t, m)
	zero, is := m.Zero()
	if !is || m.Len() != 512 {
		t.Fatalf("%d elements", m.Len())
	}
	counts(t, name, g, [5]int{512, 512, 512, 512, 512})
	heights(t, name, g, [5]int{10, 10, 10, 10, 10})
	for i := range 512 {
		shaped(t, name, g, i, 1, 1, 1, must[int](t)(m.Product(i, i)) == i)
		for _, kind := range kinds {
			if !must[bool](t)(g.Below(kind, zero, i)) || must[bool](t)(g.Below(kind, i, zero)) != (i == zero) {
				t.Fatalf("the zero is not below %d, by %d", i, kind)
			}
		}
	}
}

// TestP1502P1503AllMaps: the D classes are those of maps with as many images; a row has one kernel, a column one image.
func TestP1502P1503AllMaps(t *testing.T) {
	g := made(t, built(t, allMaps(4)))
	counts(t, "all maps of 4", g, [5]int{1 + 6 + 7 + 1, 1 + 4 + 6 + 4, 4, 1 + 24 + 42 + 4, 4})
	heights(t, "all maps of 4", g, [5]int{3, 3, 3, 3, 3})
	shaped(t, "all maps of 4", g, 0, 1, 1, 24, true)
	shaped(t, "all maps of 4", g, 1, 6, 4, 6, true)
	shaped(t, "all maps of 4", g, 2, 7, 6, 2, true)
	shaped(t, "all maps of 4", g, 3, 1, 4, 1, true)
	g = made(t, built(t, allMaps(3)))
	counts(t, "all maps of 3", g, [5]int{5, 7, 3, 13, 3})
	shaped(t, "all maps of 3", g, 1, 3, 3, 2, true)
	shaped(t, "all maps of 3", g, 2, 1, 3, 1, true)
}

// TestP1503NoIdempotent: D classes without one, of one element and of many rows and columns.
func TestP1503NoIdempotent(t *testing.T) {
	g := made(t, built(t, crossing(3)))
	// A row has one pair of points that are made one, a column one image, and in it the point where the pair goes.
	counts(t, "crossing of 3", g, [5]int{1 + 3 + 1, 1 + 6 + 1, 3, 1 + 18 + 1, 3})
	heights(t, "crossing of 3", g, [5]int{2, 2, 2, 2, 2})
	shaped(t, "crossing of 3", g, 0, 1, 1, 6, true)
	shaped(t, "crossing of 3", g, 1, 3, 6, 1, false)
	shaped(t, "crossing of 3", g, 2, 1, 1, 1, true)
	g = made(t, built(t, crossing(4)))
	shaped(t, "crossing of 4", g, 1, 6, 12, 2, false)
	// Of one word: each of its pieces stands alone.
	m := built(t, ending(2, 6))
	g = made(t, m)
	zero, _ := m.Zero()
	for i := range m.Len() {
		boxed(t, "one word", g, i, api.Box{Rows: 1, Cols: 1, Each: 1, Regular: i == 0 || i == zero, Cells: [][]int{{i}}})
	}
}

// TestP1503ManyRowsAndColumns: each row has all columns, and each cell its class, rising by the numbers of rows and columns.
func TestP1503ManyRowsAndColumns(t *testing.T) {
	g := made(t, built(t, around(8)))
	shaped(t, "8 letters again and again", g, 1, 8, 8, 1, true)
	g = made(t, built(t, bothEnds(8)))
	shaped(t, "both ends", g, 1, 8, 8, 1, true)
	g = made(t, built(t, lastLetter(8, 8)))
	boxed(t, "the last letter", g, 1, api.Box{Rows: 1, Cols: 8, Each: 1, Regular: true, Cells: [][]int{{1, 2, 3, 4, 5, 6, 7, 8}}})
	counts(t, "the last letter", g, [5]int{2, 9, 2, 9, 2})
	g = made(t, built(t, firstLetter(8)))
	boxed(t, "the first letter", g, 1, api.Box{Rows: 8, Cols: 1, Each: 1, Regular: true, Cells: [][]int{{1}, {2}, {3}, {4}, {5}, {6}, {7}, {8}}})
	counts(t, "the first letter", g, [5]int{9, 2, 2, 9, 2})
}

// TestP1503Cells: the cell of a row and a column has what is in both, on all samples.
func TestP1503Cells(t *testing.T) {
	visit(t, samples(), func(name string, m *monoid.Monoid, g *green.Green) {
		for c := range must[int](t)(g.Count(api.D)) {
			b := must[api.Box](t)(g.Box(c))
			rows, cols := map[int]int{}, map[int]int{}
			members := must[[]int](t)(g.Members(api.D, c))
			for _, i := range members {
				rows[must[int](t)(g.Class(api.R, i))] = 0
				cols[must[int](t)(g.Class(api.L, i))] = 0
			}
			number(rows)
			number(cols)
			if b.Rows != len(rows) || b.Cols != len(cols) || b.Each*b.Rows*b.Cols != len(members) {
				t.Fatalf("%s: Box(%d) is %v, of %d elements", name, c, b, len(members))
			}
			for _, i := range members {
				row, col := rows[must[int](t)(g.Class(api.R, i))], cols[must[int](t)(g.Class(api.L, i))]
				if b.Cells[row][col] != must[int](t)(g.Class(api.H, i)) {
					t.Fatalf("%s: Box(%d) is %v: %d is not in its cell", name, c, b, i)
				}
			}
		}
	})
}

// number gives each key its place among them.
func number(keys map[int]int) {
	for k := range keys {
		n := 0
		for other := range keys {
			if other < k {
				n++
			}
		}
		keys[k] = n
	}
}

// TestP1502HeightsDiffer: the relations of one monoid may have unlike heights.
func TestP1502HeightsDiffer(t *testing.T) {
	// The elements "", a, b, aa: ba is a, ab is the zero aa. By R "", b, a, aa stand one below the other, by L neither of a and b is below the other.
	one := api.Auto{Letters: 2, Next: []int{0, 0, 0, 0, 1, 2}, Accept: make([]bool, 3)}
	heights(t, "ba is a", made(t, built(t, one)), [5]int{3, 2, 3, 2, 3})
	// Here ab is a, and ba the zero.
	other := api.Auto{Letters: 2, Next: []int{0, 0, 0, 1, 1, 0}, Accept: make([]bool, 3)}
	heights(t, "ab is a", made(t, built(t, other)), [5]int{2, 3, 3, 2, 3})
	// Of the word ab alone: ab is below a by R, below b by L, below neither by H.
	heights(t, "ab", made(t, built(t, ending(2, 4))), [5]int{3, 3, 3, 2, 3})
	// The longest row by J goes now by R, now by L.
	mixed := api.Auto{Letters: 4, Next: []int{3, 3, 3, 0, 1, 1, 3, 3, 2, 3, 3, 1, 3, 1, 3, 0}, Accept: make([]bool, 4)}
	heights(t, "14 elements", made(t, built(t, mixed)), [5]int{4, 4, 5, 3, 5})
}
