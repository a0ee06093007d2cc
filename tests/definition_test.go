package tests_test

import (
	"slices"
	"testing"

	"eggbox/api"
	"eggbox/holds"
	"eggbox/monoid"
	"eggbox/terms"
)

// model is a monoid as its words tell it: products and omegas of elements, and what is at most what.
type model struct {
	n       int
	product [][]int
	omega   []int
	atMost  [][]bool
}

// modelOf asks for nothing but words, their elements, and what is accepted.
func modelOf(t *testing.T, m *monoid.Monoid) model {
	t.Helper()
	out := model{n: m.Len()}
	var words []string
	for i := range out.n {
		words = append(words, must[string](t)(m.Word(i)))
	}
	for i := range out.n {
		var row []int
		for j := range out.n {
			row = append(row, must[int](t)(m.Element(words[i]+words[j])))
		}
		out.product = append(out.product, row)
	}
	for i := range out.n {
		power := i
		for out.product[power][power] != power {
			power = out.product[power][i]
		}
		out.omega = append(out.omega, power)
	}
	out.compare(t, m)
	return out
}

// compare says what is at most what, by all contexts.
func (m *model) compare(t *testing.T, of *monoid.Monoid) {
	t.Helper()
	var accepted []bool
	for i := range m.n {
		accepted = append(accepted, must[bool](t)(of.Accept(i)))
	}
	// Which of the contexts let an element in, as bits.
	lets := make([][]uint64, m.n)
	for i := range m.n {
		lets[i] = make([]uint64, (m.n*m.n+63)/64)
		for u := range m.n {
			ahead := m.product[u][i]
			for v := range m.n {
				if at := u*m.n + v; accepted[m.product[ahead][v]] {
					lets[i][at/64] |= 1 << (at % 64)
				}
			}
		}
	}
	for i := range m.n {
		var row []bool
		for j := range m.n {
			is := true
			for at, some := range lets[i] {
				is = is && some&^lets[j][at] == 0
			}
			row = append(row, is)
		}
		m.atMost = append(m.atMost, row)
	}
}

// times is the product of elements, one behind the other.
func (m model) times(all ...int) int {
	out := 0
	for _, i := range all {
		out = m.product[out][i]
	}
	return out
}

// swapped is whether two elements' omegas, changed about and joined with themselves, are the omega of their product: what "ds" asks.
func (m model) swapped(x, y int) bool {
	xy, yx := m.omega[m.times(x, y)], m.omega[m.times(y, x)]
	return m.omega[m.times(xy, yx, xy)] == xy
}

// law is what a class asks of two elements: the chapter's table, written as products.
func (m model) law(class string, x, y int) bool {
	w, xy := m.omega[x], m.omega[m.times(x, y)]
	switch class {
	case "trivial":
		return x == 0
	case "group":
		return w == 0
	case "commutative":
		return m.times(x, y) == m.times(y, x)
	case "idempotent":
		return m.times(x, x) == x
	case "semilattice":
		return m.times(x, x) == x && m.times(x, y) == m.times(y, x)
	case "counterfree", "htrivial":
		return m.times(w, x) == w
	case "rtrivial":
		return m.times(xy, x) == xy
	case "ltrivial":
		return m.times(y, xy) == xy
	case "jtrivial":
		return m.times(xy, x) == xy && m.times(y, xy) == xy
	case "da":
		return m.times(w, x) == w && m.swapped(x, y)
	case "ds":
		return m.swapped(x, y)
	case "blocks":
		return m.omega[m.times(w, m.omega[y])] == m.omega[m.times(m.omega[y], w)]
	case "central":
		return m.times(w, y) == m.times(y, w)
	case "upward":
		return m.atMost[0][x]
	case "downward":
		return m.atMost[x][0]
	case "acom":
		return m.times(w, x) == w && m.times(x, y) == m.times(y, x)
	}
	return false
}

// has is whether the law of a class holds of all elements.
func (m model) has(class string) bool {
	for x := range m.n {
		for y := range m.n {
			if !m.law(class, x, y) {
				return false
			}
		}
	}
	return true
}

// tally is how often a class was met, and how often it was not.
type tally map[string][2]int

func (a tally) add(class string, is bool) {
	n := a[class]
	if is {
		n[1]++
	} else {
		n[0]++
	}
	a[class] = n
}

// check says that of each class there were monoids in it, and others.
func (a tally) check(t *testing.T, least int) {
	t.Helper()
	for _, name := range names() {
		if n := a[name]; min(n[0], n[1]) < least {
			t.Errorf("%s: not %d times, and so %d times alone", name, n[0], n[1])
		}
	}
}

func TestP2103ByDefinition(t *testing.T) {
	met := tally{}
	visit(t, smallOnes(t), func(name string, m *monoid.Monoid) {
		byDefinition(t, name, m, met)
	})
	met.check(t, 10)
}

// byDefinition holds Test and All to the laws of all elements.
func byDefinition(t *testing.T, name string, m *monoid.Monoid, met tally) {
	t.Helper()
	model := modelOf(t, m)
	var should []string
	for _, class := range names() {
		is := model.has(class)
		met.add(class, is)
		if is {
			should = append(should, class)
		}
		if got := test(t, m, class); got != is {
			t.Fatalf("%s: Test of %s is %v", name, class, got)
		}
	}
	if got := all(t, m); !slices.Equal(got, should) {
		t.Fatalf("%s: All is %v; should be %v", name, got, should)
	}
}

func TestP2103GreatByDefinition(t *testing.T) {
	for _, s := range greatOnes() {
		if s.elems <= 140 {
			byDefinition(t, s.name, built(t, s.a), tally{})
		}
	}
}

// TestP2103ByItsIdentities: a class is what its texts say; by layer 20, with all elements, and, of at most 60 of them, by values of the sides.
func TestP2103ByItsIdentities(t *testing.T) {
	met := tally{}
	visit(t, slices.Concat(smallOnes(t), greatOnes()), func(name string, m *monoid.Monoid) {
		for _, class := range names() {
			should, by := true, true
			for _, text := range identities(t, class) {
				id, _, e := terms.Parse(text)
				if e != api.OK {
					t.Fatalf("Parse(%q): %d", text, e)
				}
				is, _, e := holds.Holds(m, id)
				if e != api.OK {
					t.Fatalf("%s: Holds(%q): %d", name, text, e)
				}
				should = should && is
				by = by && (id.Less || m.Len() > 60 || bySides(t, m, id))
			}
			if m.Len() > 60 || class == "upward" || class == "downward" {
				by = should
			}
			if is := test(t, m, class); is != should || is != by {
				t.Fatalf("%s: Test of %s is %v, its identities say %v, their values %v", name, class, is, should, by)
			}
			met.add(class, should)
		}
	})
	met.check(t, 10)
}

// bySides: have both sides one value, whatever stands for x and y?
func bySides(t *testing.T, m *monoid.Monoid, id api.Identity) bool {
	t.Helper()
	for x := range m.Len() {
		for y := range m.Len() {
			left := must[int](t)(terms.Value(m, id.Left, []int{x, y}))
			if must[int](t)(terms.Value(m, id.Right, []int{x, y})) != left {
				return false
			}
		}
	}
	return true
}
