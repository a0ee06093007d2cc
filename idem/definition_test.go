package idem_test

import (
	"slices"
	"testing"

	"eggbox/api"
	"eggbox/idem"
	"eggbox/monoid"
)

// products are all of a monoid's.
type products [][]int

func productsOf(t *testing.T, m *monoid.Monoid) products {
	t.Helper()
	out := make(products, m.Len())
	for i := range out {
		for j := range out {
			p, e := m.Product(i, j)
			if e != api.OK {
				t.Fatalf("Product(%d, %d): %d", i, j, e)
			}
			out[i] = append(out[i], p)
		}
	}
	return out
}

// of is the product of elements, the first one with the second one, that with the third one.
func (p products) of(first int, more ...int) int {
	for _, i := range more {
		first = p[first][i]
	}
	return first
}

func (p products) isIdempotent(i int) bool { return p[i][i] == i }

// powers are those of an element from 0 up to a number.
func (p products) powers(i, most int) []int {
	out := []int{0}
	for range most {
		out = append(out, p[out[len(out)-1]][i])
	}
	return out
}

// idempotents are all of them.
func (p products) idempotents() []int {
	return slices.DeleteFunc(numbers(len(p)), func(i int) bool { return !p.isIdempotent(i) })
}

// omega is the idempotent among the powers; -1, if there is not just one.
func (p products) omega(i int) int {
	out := p.powers(i, 2*len(p))[1:]
	out = slices.DeleteFunc(out, func(x int) bool { return !p.isIdempotent(x) })
	if len(out) == 0 || slices.Min(out) != slices.Max(out) {
		return -1
	}
	return out[0]
}

// cycle tries each index, and then each period.
func (p products) cycle(i int) (index, period int) {
	all := p.powers(i, 2*len(p)+1)
	for index := range len(p) + 1 {
		for period := 1; period <= len(p); period++ {
			if all[index+period] == all[index] {
				return index, period
			}
		}
	}
	return -1, -1
}

// exponent goes through the powers of all elements at once.
func (p products) exponent() int {
	at := numbers(len(p))
	for n := 1; ; n++ {
		if !slices.ContainsFunc(at, func(x int) bool { return !p.isIdempotent(x) }) {
			return n
		}
		for i, x := range at {
			at[i] = p[x][i]
		}
	}
}

// weakInverses are all j with i j i = i.
func (p products) weakInverses(i int) []int {
	return slices.DeleteFunc(numbers(len(p)), func(j int) bool { return p.of(i, j, i) != i })
}

func (p products) inverses(i int) []int {
	return slices.DeleteFunc(p.weakInverses(i), func(j int) bool { return p.of(j, i, j) != j })
}

func (p products) between(e int) []int {
	return slices.DeleteFunc(numbers(len(p)), func(i int) bool { return p.of(e, i, e) != i })
}

// agrees holds the calls of one element.
func agrees(t *testing.T, name string, m *monoid.Monoid, p products, i int) {
	t.Helper()
	if is, e := idem.Idempotent(m, i); is != p.isIdempotent(i) || e != api.OK {
		t.Fatalf("%s: Idempotent(%d) is %v, %d", name, i, is, e)
	}
	if x, e := idem.Omega(m, i); x != p.omega(i) || e != api.OK {
		t.Fatalf("%s: Omega(%d) is %d, %d; should be %d", name, i, x, e, p.omega(i))
	}
	shouldIndex, shouldPeriod := p.cycle(i)
	if index, period, e := idem.Cycle(m, i); index != shouldIndex || period != shouldPeriod || e != api.OK {
		t.Fatalf("%s: Cycle(%d) is %d, %d, %d; should be %d, %d", name, i, index, period, e, shouldIndex, shouldPeriod)
	}
	if is, e := idem.Regular(m, i); is != (len(p.weakInverses(i)) > 0) || e != api.OK {
		t.Fatalf("%s: Regular(%d) is %v, %d", name, i, is, e)
	}
	if l, e := idem.Inverses(m, i); !slices.Equal(l, p.inverses(i)) || e != api.OK {
		t.Fatalf("%s: Inverses(%d) is %v, %d; should be %v", name, i, l, e, p.inverses(i))
	}
}

// agreesOnIdempotents holds the calls of idempotents, and those of all elements together.
func agreesOnIdempotents(t *testing.T, name string, m *monoid.Monoid, p products) {
	t.Helper()
	should := p.idempotents()
	if l, e := idem.List(m); !slices.Equal(l, should) || e != api.OK {
		t.Fatalf("%s: List is %v, %d; should be %v", name, l, e, should)
	}
	if n, e := idem.Exponent(m); n != p.exponent() || e != api.OK {
		t.Fatalf("%s: Exponent is %d, %d; should be %d", name, n, e, p.exponent())
	}
	for e := range p {
		if !p.isIdempotent(e) {
			if l, wrong := idem.Between(m, e); len(l) != 0 || wrong != api.ErrIdem {
				t.Fatalf("%s: Between(%d) is %v, %d", name, e, l, wrong)
			}
		} else if l, wrong := idem.Between(m, e); !slices.Equal(l, p.between(e)) || wrong != api.OK {
			t.Fatalf("%s: Between(%d) is %v, %d; should be %v", name, e, l, wrong, p.between(e))
		}
		for f := range p {
			is, wrong := idem.Below(m, e, f)
			if !p.isIdempotent(e) || !p.isIdempotent(f) {
				if is || wrong != api.ErrIdem {
					t.Fatalf("%s: Below(%d, %d) is %v, %d", name, e, f, is, wrong)
				}
			} else if is != (p[e][f] == e && p[f][e] == e) || wrong != api.OK {
				t.Fatalf("%s: Below(%d, %d) is %v, %d", name, e, f, is, wrong)
			}
		}
	}
}

func TestP16_1P16_2P16_3P16_4ByDefinitionOfSmallOnes(t *testing.T) {
	visit(t, smallOnes(), func(name string, m *monoid.Monoid) {
		p := productsOf(t, m)
		for i := range p {
			agrees(t, name, m, p, i)
		}
		agreesOnIdempotents(t, name, m, p)
	})
}

func TestP16_1P16_2P16_3P16_4ByDefinitionOfSamples(t *testing.T) {
	visit(t, slices.Concat(samples(), thrown(150)), func(name string, m *monoid.Monoid) {
		p := productsOf(t, m)
		for i := range p {
			agrees(t, name, m, p, i)
		}
		agreesOnIdempotents(t, name, m, p)
	})
}
