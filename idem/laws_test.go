package idem_test

import (
	"slices"
	"testing"

	"eggbox/api"
	"eggbox/green"
	"eggbox/idem"
	"eggbox/monoid"
	"eggbox/trans"
)

// asked is what the calls answer of all elements, and all products.
type asked struct {
	products
	omega   []int
	circles []circle
	list    []int
}

func askedOf(t *testing.T, m *monoid.Monoid) *asked {
	t.Helper()
	out := &asked{products: productsOf(t, m), list: must[[]int](t)(idem.List(m))}
	for i := range out.products {
		out.omega = append(out.omega, must[int](t)(idem.Omega(m, i)))
		out.circles = append(out.circles, circleOf(t, m, i))
	}
	return out
}

// hold goes through monoids of all kinds and sizes.
func hold(t *testing.T, look func(name string, m *monoid.Monoid, a *asked)) {
	t.Helper()
	visit(t, lawful(), func(name string, m *monoid.Monoid) { look(name, m, askedOf(t, m)) })
}

// TestP16_5OmegaIsEachPowerOfTheCircle: the power n for each n that is a multiple of the period and no less than the index and 1, great ones too, and for no other n.
func TestP16_5OmegaIsEachPowerOfTheCircle(t *testing.T) {
	met := map[bool]int{}
	hold(t, func(name string, m *monoid.Monoid, a *asked) {
		for i, c := range a.circles {
			for n, power := range a.powers(i, c.index+2*c.period+1) {
				is := n >= 1 && n >= c.index && n%c.period == 0
				met[is]++
				// The power 0 may be Omega or not: no multiple from 1 on is 0.
				if n > 0 && is != (power == a.omega[i]) {
					t.Fatalf("%s: of %d the power %d is %d; Cycle %v, Omega %d", name, i, n, power, c, a.omega[i])
				}
			}
			for _, times := range []uint64{512, 1<<20 + 1, 1<<31 - 1, 1 << 40, 1<<53 + 7} {
				if p := must[int](t)(m.Power(i, times*uint64(c.period))); p != a.omega[i] {
					t.Fatalf("%s: of %d the power %d %d is %d; Omega %d", name, i, times, c.period, p, a.omega[i])
				}
			}
		}
	})
	if met[true] < 20000 || met[false] < 20000 {
		t.Errorf("so many powers are Omega: %v", met)
	}
}

// TestP16_5GroupOfPowers: those from the index on are as many as the period, closed under products, with Omega as their one, and each has one that leads back.
func TestP16_5GroupOfPowers(t *testing.T) {
	great := 0
	hold(t, func(name string, m *monoid.Monoid, a *asked) {
		for i, c := range a.circles {
			if i%5 > 0 && len(a.products) > 100 && c.period > 20 {
				continue
			}
			members := a.powers(i, c.index+c.period-1)[c.index:]
			in := make([]bool, len(a.products))
			for _, x := range members {
				if in[x] {
					t.Fatalf("%s: of %d a power is met twice: Cycle %v", name, i, c)
				}
				in[x] = true
			}
			if len(members) != c.period || !in[a.omega[i]] {
				t.Fatalf("%s: of %d the circle is %v, Omega %d, Cycle %v", name, i, members, a.omega[i], c)
			}
			if c.period > 1 {
				great++
			}
			for _, x := range members {
				leadsBack := 0
				for _, y := range members {
					if !in[a.products[x][y]] {
						t.Fatalf("%s: of %d: %d %d is not in the circle", name, i, x, y)
					}
					if a.products[x][y] == a.omega[i] {
						leadsBack++
					}
				}
				if leadsBack != 1 || a.of(x, a.omega[i]) != x || a.of(a.omega[i], x) != x {
					t.Fatalf("%s: of %d: %d is no member of the group at %d", name, i, x, a.omega[i])
				}
			}
		}
	})
	if great < 3000 {
		t.Errorf("%d circles have several elements", great)
	}
}

// common is the least number from 1 on that all of these divide.
func common(all []int) int {
	out := 1
	for _, n := range all {
		step := out
		for out%n != 0 {
			out += step
		}
	}
	return out
}

func TestP16_5Exponent(t *testing.T) {
	just, greater := 0, 0
	hold(t, func(name string, m *monoid.Monoid, a *asked) {
		var periods []int
		most := 0
		for _, c := range a.circles {
			periods = append(periods, c.period)
			most = max(most, c.index)
		}
		step := common(periods)
		should := step
		for should < most {
			should += step
		}
		if should == step {
			just++
		} else {
			greater++
		}
		if n := must[int](t)(idem.Exponent(m)); n != should {
			t.Fatalf("%s: Exponent is %d; should be %d", name, n, should)
		}
		for i := range a.products {
			if p := must[int](t)(m.Power(i, uint64(should))); p != a.omega[i] {
				t.Fatalf("%s: of %d the power %d is %d; Omega %d", name, i, should, p, a.omega[i])
			}
		}
	})
	if just < 100 || greater < 100 {
		t.Errorf("%d exponents are the periods' multiple, %d are greater", just, greater)
	}
}

// TestP16_2CycleOfTransformations: an element's powers go round as those of what it does.
func TestP16_2CycleOfTransformations(t *testing.T) {
	hold(t, func(name string, m *monoid.Monoid, a *asked) {
		for i, c := range a.circles {
			index, period, e := trans.Cycle(must[api.Trans](t)(m.Trans(i)))
			if e != api.OK || c != (circle{index, period}) {
				t.Fatalf("%s: Cycle(%d) is %v; of the transformation %d, %d, %d", name, i, c, index, period, e)
			}
		}
	})
}

func TestP16_6Regular(t *testing.T) {
	met := map[bool]int{}
	hold(t, func(name string, m *monoid.Monoid, a *asked) {
		for i := range a.products {
			is := must[bool](t)(idem.Regular(m, i))
			met[is]++
			if found := must[[]int](t)(idem.Inverses(m, i)); len(found) > 0 != is {
				t.Fatalf("%s: Regular(%d) is %v, Inverses %v", name, i, is, found)
			}
			byIdempotent := slices.ContainsFunc(a.products[i], func(e int) bool { return a.isIdempotent(e) && a.of(e, i) == i })
			if byIdempotent != is {
				t.Fatalf("%s: Regular(%d) is %v, by idempotents it is not so", name, i, is)
			}
		}
	})
	if met[true] < 5000 || met[false] < 1000 {
		t.Errorf("so many elements are regular: %v", met)
	}
}

func TestP16_6Idempotents(t *testing.T) {
	hold(t, func(name string, m *monoid.Monoid, a *asked) {
		for _, e := range a.list {
			if !must[bool](t)(idem.Regular(m, e)) || !slices.Contains(must[[]int](t)(idem.Inverses(m, e)), e) {
				t.Fatalf("%s: %d is idempotent, and not among its inverses", name, e)
			}
		}
	})
}

// TestP16_6RegularClasses: an element is regular just if its D class has an idempotent (chapter 15).
func TestP16_6RegularClasses(t *testing.T) {
	hold(t, func(name string, m *monoid.Monoid, a *asked) {
		g := must[*green.Green](t)(green.Make(m))
		for i := range a.products {
			b := must[api.Box](t)(g.Box(must[int](t)(g.Class(api.D, i))))
			if is := must[bool](t)(idem.Regular(m, i)); is != b.Regular {
				t.Fatalf("%s: Regular(%d) is %v", name, i, is)
			}
		}
	})
}

// TestP16_3InversesBothWays: each is an inverse of its inverses, and the products of the two are idempotents.
func TestP16_3InversesBothWays(t *testing.T) {
	hold(t, func(name string, m *monoid.Monoid, a *asked) {
		for i := range a.products {
			for at, j := range must[[]int](t)(idem.Inverses(m, i)) {
				if !a.isIdempotent(a.of(i, j)) || !a.isIdempotent(a.of(j, i)) {
					t.Fatalf("%s: %d is an inverse of %d, and their products are no idempotents", name, j, i)
				}
				if at < 3 && !slices.Contains(must[[]int](t)(idem.Inverses(m, j)), i) {
					t.Fatalf("%s: %d is an inverse of %d, not the other way round", name, j, i)
				}
			}
		}
	})
}

func TestP16_7Order(t *testing.T) {
	d := dice(167)
	met := map[bool]int{}
	hold(t, func(name string, m *monoid.Monoid, a *asked) {
		below := func(e, f int) bool { return must[bool](t)(idem.Below(m, e, f)) }
		for _, e := range a.list {
			if !below(e, e) || !below(e, 0) || below(0, e) != (e == 0) {
				t.Fatalf("%s: %d is not below itself and the identity", name, e)
			}
			for _, f := range a.list {
				is := below(e, f)
				met[is]++
				if is && e != f && below(f, e) {
					t.Fatalf("%s: %d and %d are below one another", name, e, f)
				}
				if !is {
					continue
				}
				for range 3 {
					if g := a.list[d.below(len(a.list))]; below(f, g) && !below(e, g) {
						t.Fatalf("%s: %d, %d, %d: below is no order", name, e, f, g)
					}
				}
			}
		}
	})
	if met[true] < 5000 || met[false] < 5000 {
		t.Errorf("so many are below others: %v", met)
	}
}

func TestP16_7BelowIsBetween(t *testing.T) {
	hold(t, func(name string, m *monoid.Monoid, a *asked) {
		for _, f := range a.list {
			there := must[[]int](t)(idem.Between(m, f))
			for _, e := range a.list {
				if is := must[bool](t)(idem.Below(m, e, f)); is != slices.Contains(there, e) {
					t.Fatalf("%s: Below(%d, %d) is %v, Between(%d) %v", name, e, f, is, f, there)
				}
			}
		}
	})
}

// TestP16_4MonoidsWhoseOneIsE: what Between answers is closed under products, and e changes none of it.
func TestP16_4MonoidsWhoseOneIsE(t *testing.T) {
	d := dice(164)
	hold(t, func(name string, m *monoid.Monoid, a *asked) {
		for _, e := range a.list {
			there := must[[]int](t)(idem.Between(m, e))
			if !slices.Contains(there, e) || !slices.IsSorted(there) {
				t.Fatalf("%s: Between(%d) is %v", name, e, there)
			}
			for _, i := range there {
				if a.of(e, i) != i || a.of(i, e) != i {
					t.Fatalf("%s: %d changes %d", name, e, i)
				}
				for range 3 {
					if j := there[d.below(len(there))]; !slices.Contains(there, a.of(i, j)) {
						t.Fatalf("%s: Between(%d) has %d and %d, not their product", name, e, i, j)
					}
				}
			}
			// Each element with e on both sides is there.
			for i := range a.products {
				if _, is := slices.BinarySearch(there, a.of(e, i, e)); !is {
					t.Fatalf("%s: %d %d %d is not in Between(%d)", name, e, i, e, e)
				}
			}
		}
	})
}

// greatestGroup is how many elements the group at an idempotent has: those of the monoid there that something leads back from, from both sides.
func (p products) greatestGroup(e int) int {
	there := p.between(e)
	out := 0
	for _, i := range there {
		if slices.ContainsFunc(there, func(j int) bool { return p[i][j] == e && p[j][i] == e }) {
			out++
		}
	}
	return out
}

func TestP16_8Aperiodic(t *testing.T) {
	met := map[bool]int{}
	hold(t, func(name string, m *monoid.Monoid, a *asked) {
		trivial := !slices.ContainsFunc(a.list, func(e int) bool { return a.greatestGroup(e) > 1 })
		allOnes := !slices.ContainsFunc(a.circles, func(c circle) bool { return c.period != 1 })
		met[allOnes]++
		if trivial != allOnes {
			t.Fatalf("%s: each subgroup has one element: %v; all periods are 1: %v", name, trivial, allOnes)
		}
	})
	if met[true] < 100 || met[false] < 100 {
		t.Errorf("so many monoids are aperiodic: %v", met)
	}
}

func TestP16_8PeriodsOfProducts(t *testing.T) {
	unlike := 0
	hold(t, func(name string, m *monoid.Monoid, a *asked) {
		for i, row := range a.products {
			for j, p := range row {
				q := a.products[j][i]
				if a.circles[p].period != a.circles[q].period {
					t.Fatalf("%s: %d %d has the period %d, %d %d %d", name, i, j, a.circles[p].period, j, i, a.circles[q].period)
				}
				if p != q && a.circles[p].period > 1 {
					unlike++
				}
			}
		}
	})
	if unlike < 3000 {
		t.Errorf("%d products are unlike when they are turned round, and have a period above 1", unlike)
	}
}
