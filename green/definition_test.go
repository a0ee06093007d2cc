package green_test

import (
	"slices"
	"testing"

	"eggbox/api"
	"eggbox/green"
	"eggbox/monoid"
)

// products are all of a monoid's.
type products [][]int

func productsOf(t *testing.T, m *monoid.Monoid) products {
	t.Helper()
	out := make(products, m.Len())
	for i := range out {
		for j := range out {
			p, e := m.Product(i, j)
			if e != api.OK {
				t.Fatalf("Product(%d, %d): %d", i, j, e)
			}
			out[i] = append(out[i], p)
		}
	}
	return out
}

// plain is what the chapter's sentences say of a monoid, by kind.
type plain struct {
	products
	below   [6][][]bool // below[kind][i][j]: is i below j?
	classes [6][]int
	members [6][][]int
	height  [6]int
	boxes   []api.Box
}

func byDefinition(t *testing.T, m *monoid.Monoid) *plain {
	t.Helper()
	p := &plain{products: productsOf(t, m)}
	for kind := range p.below {
		p.below[kind] = make([][]bool, len(p.products))
		for i := range p.products {
			p.below[kind][i] = make([]bool, len(p.products))
		}
	}
	p.order()
	for _, kind := range []int{api.R, api.L, api.J, api.H} {
		below := p.below[kind]
		p.part(kind, func(i, j int) bool { return below[i][j] && below[j][i] })
	}
	p.part(api.D, p.joinedByOne())
	for _, kind := range kinds {
		p.height[kind] = p.longest(kind)
	}
	for _, class := range p.members[api.D] {
		p.boxes = append(p.boxes, p.box(class))
	}
	return p
}

// order finds what is below what: i is j x; i is x j; i is x j y; both of the first two.
func (p *plain) order() {
	for j := range p.products {
		for x := range p.products {
			p.below[api.R][p.products[j][x]][j] = true
			p.below[api.L][p.products[x][j]][j] = true
		}
		for left := range p.products {
			if !p.below[api.L][left][j] {
				continue
			}
			for _, i := range p.products[left] {
				p.below[api.J][i][j] = true
				p.below[api.D][i][j] = true
			}
		}
	}
	for i := range p.products {
		for j := range p.products {
			p.below[api.H][i][j] = p.below[api.R][i][j] && p.below[api.L][i][j]
		}
	}
}

// joinedByOne: is there an element in i's R class that is in j's L class?
func (p *plain) joinedByOne() func(i, j int) bool {
	n := len(p.products)
	table := make([][]bool, n)
	for i := range n {
		table[i] = make([]bool, n)
		for _, h := range p.members[api.R][p.classes[api.R][i]] {
			for _, j := range p.members[api.L][p.classes[api.L][h]] {
				table[i][j] = true
			}
		}
	}
	return func(i, j int) bool { return table[i][j] }
}

// part makes the classes of a kind, numbered by their least elements.
func (p *plain) part(kind int, alike func(i, j int) bool) {
	classes := make([]int, len(p.products))
	for i := range classes {
		first := slices.IndexFunc(numbers(i), func(j int) bool { return alike(i, j) })
		if first >= 0 {
			classes[i] = classes[first]
			p.members[kind][classes[i]] = append(p.members[kind][classes[i]], i)
			continue
		}
		classes[i] = len(p.members[kind])
		p.members[kind] = append(p.members[kind], []int{i})
	}
	p.classes[kind] = classes
}

// longest is how many steps down a row of classes has, at most.
func (p *plain) longest(kind int) int {
	below := p.below[kind]
	known := make([]int, len(p.members[kind])) // one more than the steps down from a class; 0: not known
	var down func(c int) int
	down = func(c int) int {
		if known[c] > 0 {
			return known[c] - 1
		}
		out, i := 0, p.members[kind][c][0]
		for d, class := range p.members[kind] {
			if below[class[0]][i] && !below[i][class[0]] {
				out = max(out, 1+down(d))
			}
		}
		known[c] = out + 1
		return out
	}
	out := 0
	for c := range known {
		out = max(out, down(c))
	}
	return out
}

// box is the eggbox of a D class.
func (p *plain) box(class []int) api.Box {
	var rows, cols []int
	for c, members := range p.members[api.R] {
		if slices.Contains(class, members[0]) {
			rows = append(rows, c)
		}
	}
	for c, members := range p.members[api.L] {
		if slices.Contains(class, members[0]) {
			cols = append(cols, c)
		}
	}
	out := api.Box{Rows: len(rows), Cols: len(cols)}
	for _, r := range rows {
		var line []int
		for _, c := range cols {
			at := slices.IndexFunc(class, func(i int) bool { return p.classes[api.R][i] == r && p.classes[api.L][i] == c })
			if at < 0 {
				line = append(line, -1)
				continue
			}
			line = append(line, p.classes[api.H][class[at]])
		}
		out.Cells = append(out.Cells, line)
	}
	for _, i := range class {
		out.Each = len(p.members[api.H][p.classes[api.H][i]])
		out.Regular = out.Regular || p.products[i][i] == i
	}
	return out
}

// agrees holds all calls to the definition.
func agrees(t *testing.T, name string, g *green.Green, p *plain) {
	t.Helper()
	for _, kind := range kinds {
		if n := must[int](t)(g.Count(kind)); n != len(p.members[kind]) {
			t.Fatalf("%s: Count(%d) is %d; should be %d", name, kind, n, len(p.members[kind]))
		}
		for i, should := range p.classes[kind] {
			if c := must[int](t)(g.Class(kind, i)); c != should {
				t.Fatalf("%s: Class(%d, %d) is %d; should be %d", name, kind, i, c, should)
			}
			for j := range p.products {
				if is, e := g.Below(kind, i, j); is != p.below[kind][i][j] || e != api.OK {
					t.Fatalf("%s: Below(%d, %d, %d) is %v, %d", name, kind, i, j, is, e)
				}
			}
		}
		for c, should := range p.members[kind] {
			if l := must[[]int](t)(g.Members(kind, c)); !slices.Equal(l, should) {
				t.Fatalf("%s: Members(%d, %d) is %v; should be %v", name, kind, c, l, should)
			}
		}
		if n := must[int](t)(g.Height(kind)); n != p.height[kind] {
			t.Fatalf("%s: Height(%d) is %d; should be %d", name, kind, n, p.height[kind])
		}
	}
	for c, should := range p.boxes {
		if b := must[api.Box](t)(g.Box(c)); !sameBox(b, should) {
			t.Fatalf("%s: Box(%d) is %v; should be %v", name, c, b, should)
		}
	}
}

func TestP1502P1503ByDefinitionOfSmallOnes(t *testing.T) {
	visit(t, smallOnes(), func(name string, m *monoid.Monoid, g *green.Green) {
		agrees(t, name, g, byDefinition(t, m))
	})
}

func TestP1502P1503ByDefinitionOfSamples(t *testing.T) {
	visit(t, slices.Concat(samples(), thrown(150)), func(name string, m *monoid.Monoid, g *green.Green) {
		agrees(t, name, g, byDefinition(t, m))
	})
}
