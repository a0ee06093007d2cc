package groups_test

import (
	"fmt"
	"slices"
	"testing"

	"eggbox/api"
	"eggbox/green"
	"eggbox/groups"
	"eggbox/idem"
	"eggbox/monoid"
)

// TestP1705AGroup: closed under products, e changes none, each member has just one inverse, from both sides.
func TestP1705AGroup(t *testing.T) {
	great := 0
	visitGroups(t, lawful(), func(name string, m *monoid.Monoid, e int, g *groups.Group) {
		members := g.Members()
		if len(members) > 1 {
			great++
		}
		product := func(i, j int) int { return must[int](t)(m.Product(i, j)) }
		for _, i := range members {
			if product(i, e) != i || product(e, i) != i {
				t.Fatalf("%s: at %d: %d is changed by it", name, e, i)
			}
			back := must[int](t)(g.Inverse(i))
			if !g.Has(back) || product(back, i) != e {
				t.Fatalf("%s: at %d: Inverse(%d) is %d", name, e, i, back)
			}
			for _, j := range members {
				p := product(i, j)
				if !g.Has(p) || (p == e) != (j == back) {
					t.Fatalf("%s: at %d: %d %d is %d; Inverse(%d) is %d", name, e, i, j, p, i, back)
				}
			}
		}
	})
	if great < 400 {
		t.Errorf("%d groups have several members", great)
	}
}

// primes are those that divide a number.
func primes(n int) []int {
	var out []int
	for p := 2; n > 1; p++ {
		if n%p == 0 {
			out = append(out, p)
		}
		for n%p == 0 {
			n /= p
		}
	}
	return out
}

func TestP1706LagrangeAndCauchy(t *testing.T) {
	met := map[int]int{}
	visitGroups(t, lawful(), func(name string, m *monoid.Monoid, e int, g *groups.Group) {
		n := g.Order()
		periods := map[int]int{}
		for _, i := range g.Members() {
			periods[must[int](t)(g.Period(i))]++
		}
		for period, count := range periods {
			if n%period != 0 || !slices.Contains(g.Profile(), api.Times{Order: period, Count: count}) {
				t.Fatalf("%s: at %d: %d of %d members have the period %d; Profile %v", name, e, count, n, period, g.Profile())
			}
		}
		if center, derived := len(g.Center()), len(g.Derived()); n%center != 0 || n%derived != 0 || n%g.Exponent() != 0 {
			t.Fatalf("%s: at %d: of %d members: %d, %d, %d", name, e, n, center, derived, g.Exponent())
		}
		for _, p := range primes(n) {
			met[p]++
			if periods[p] == 0 {
				t.Fatalf("%s: at %d: of %d members none has the period %d", name, e, n, p)
			}
		}
	})
	for _, p := range []int{2, 3, 5, 7, 11, 13, 17, 23} {
		if met[p] == 0 {
			t.Errorf("no order is divided by %d", p)
		}
	}
}

// TestP1704WithinAreGroups: the center and the derived group are closed under products and inverses, and what any member takes to another place, i' x i, stays in them; in the center it stays where it is.
func TestP1704WithinAreGroups(t *testing.T) {
	visitGroups(t, lawful(), func(name string, m *monoid.Monoid, e int, g *groups.Group) {
		if g.Order() == 1 {
			return
		}
		product := func(i, j int) int { return must[int](t)(m.Product(i, j)) }
		center := g.Center()
		for _, within := range [][]int{center, g.Derived()} {
			if !slices.IsSorted(within) || !slices.Contains(within, e) {
				t.Fatalf("%s: at %d: %v", name, e, within)
			}
			for at, x := range within {
				if at > 40 {
					break
				}
				for _, y := range within {
					if _, is := slices.BinarySearch(within, product(x, must[int](t)(g.Inverse(y)))); !is {
						t.Fatalf("%s: at %d: %d, %d; %v is no group", name, e, x, y, within)
					}
				}
				for _, i := range g.Members() {
					if _, is := slices.BinarySearch(within, product(product(must[int](t)(g.Inverse(i)), x), i)); !is {
						t.Fatalf("%s: at %d: %d takes %d out of %v", name, e, i, x, within)
					}
				}
			}
		}
		for _, x := range center {
			for _, i := range g.Members() {
				if product(x, i) != product(i, x) {
					t.Fatalf("%s: at %d: %d of the center, %d", name, e, x, i)
				}
			}
		}
	})
}

// kindOf is what groups of one D class have in common.
func kindOf(g *groups.Group) string {
	steps, ok := g.Solvable()
	return fmt.Sprint(g.Order(), g.Profile(), g.Abelian(), g.Cyclic(), steps, ok, len(g.Center()), len(g.Derived()), g.Exponent())
}

func TestP1707AlikeInAClass(t *testing.T) {
	several, unlike := 0, 0
	visit(t, lawful(), func(name string, m *monoid.Monoid) {
		h := must[*green.Green](t)(green.Make(m))
		kinds := map[int]string{}
		all := map[string]int{}
		for _, e := range must[[]int](t)(idem.List(m)) {
			class := must[int](t)(h.Class(api.D, e))
			g := at(t, m, e)
			kind := kindOf(g)
			all[kind]++
			if other := kinds[class]; other != "" {
				if other != kind {
					t.Fatalf("%s: at %d: %s; at another one of its class %s", name, e, kind, other)
				}
				if g.Order() > 1 {
					several++
				}
			}
			kinds[class] = kind
		}
		if len(all) > 1 {
			unlike++
		}
	})
	if several < 200 || unlike < 200 {
		t.Errorf("%d groups have others beside them in their class; %d monoids have unlike groups", several, unlike)
	}
}

func TestP1708AbelianAndCyclic(t *testing.T) {
	met := map[[2]bool]int{}
	visitGroups(t, lawful(), func(name string, m *monoid.Monoid, e int, g *groups.Group) {
		abelian, cyclic := g.Abelian(), g.Cyclic()
		met[[2]bool{abelian, cyclic}]++
		if abelian != (len(g.Center()) == g.Order()) || abelian != slices.Equal(g.Derived(), []int{e}) {
			t.Fatalf("%s: at %d: Abelian is %v, Center %v, Derived %v", name, e, abelian, g.Center(), g.Derived())
		}
		if cyclic != (abelian && g.Exponent() == g.Order()) {
			t.Fatalf("%s: at %d: Cyclic is %v, Abelian %v, Exponent %d, Order %d", name, e, cyclic, abelian, g.Exponent(), g.Order())
		}
		steps, ok := g.Solvable()
		if should := min(1, g.Order()-1); abelian && (steps != should || !ok) || !abelian && ok && steps < 2 {
			t.Fatalf("%s: at %d: Abelian is %v, Solvable %d, %v", name, e, abelian, steps, ok)
		}
	})
	if len(met) != 3 || met[[2]bool{false, true}] > 0 || met[[2]bool{true, false}] < 6 || met[[2]bool{false, false}] < 50 {
		t.Errorf("so many groups are Abelian, cyclic: %v", met)
	}
}

func TestP1708Periods(t *testing.T) {
	met := map[bool]int{}
	visit(t, lawful(), func(name string, m *monoid.Monoid) {
		ones := !slices.ContainsFunc(must[[]int](t)(groups.Orders(m)), func(n int) bool { return n != 1 })
		periods := true
		for i := range m.Len() {
			_, period, e := idem.Cycle(m, i)
			if e != api.OK {
				t.Fatalf("%s: Cycle(%d): %d", name, i, e)
			}
			periods = periods && period == 1
		}
		met[ones]++
		if ones != periods {
			t.Fatalf("%s: all groups have one member: %v; all periods are 1: %v", name, ones, periods)
		}
	})
	if met[true] < 100 || met[false] < 100 {
		t.Errorf("so many monoids have no greater groups: %v", met)
	}
}

// TestP1704SolvableInEachNumberOfSteps: of the groups that are gone through some are solvable in 0, 1, 2, 3, 4 and 5 steps, and some never.
func TestP1704SolvableInEachNumberOfSteps(t *testing.T) {
	met := map[int]int{}
	visitGroups(t, lawful(), func(name string, m *monoid.Monoid, e int, g *groups.Group) {
		steps, ok := g.Solvable()
		if !ok {
			steps--
		}
		met[steps]++
	})
	for steps := -1; steps <= 5; steps++ {
		if met[steps] == 0 {
			t.Errorf("so many groups are solvable in so many steps (-1: never): %v", met)
		}
	}
	if len(met) != 7 {
		t.Errorf("so many groups are solvable in so many steps (-1: never): %v", met)
	}
}
