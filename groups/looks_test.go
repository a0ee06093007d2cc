package groups_test

import (
	"slices"
	"testing"

	"eggbox/api"
	"eggbox/groups"
	"eggbox/idem"
	"eggbox/monoid"
)

// listed holds a list.
func listed(t *testing.T, name string, got []int, should ...int) {
	t.Helper()
	if !slices.Equal(got, should) {
		t.Errorf("%s is %v; should be %v", name, got, should)
	}
}

func TestP1702P1703P1704Examples(t *testing.T) {
	m := built(t, even())
	for i, w := range []string{"", "a"} {
		if got := must[int](t)(m.Element(w)); got != i {
			t.Fatalf("%q is the element %d", w, got)
		}
	}
	g := at(t, m, 0)
	if g.Order() != 2 || g.Exponent() != 2 || !g.Cyclic() || !g.Abelian() {
		t.Errorf("(aa)*: Order %d, Exponent %d, Cyclic %v, Abelian %v", g.Order(), g.Exponent(), g.Cyclic(), g.Abelian())
	}
	listed(t, "Members", g.Members(), 0, 1)
	for i := range 2 {
		if j := must[int](t)(g.Inverse(i)); j != i {
			t.Errorf("Inverse(%d) is %d", i, j)
		}
		if n := must[int](t)(g.Period(i)); n != i+1 {
			t.Errorf("Period(%d) is %d", i, n)
		}
	}
	if p := g.Profile(); !slices.Equal(p, []api.Times{{Order: 1, Count: 1}, {Order: 2, Count: 1}}) {
		t.Errorf("Profile is %v", p)
	}
	if steps, ok := g.Solvable(); steps != 1 || !ok {
		t.Errorf("Solvable is %d, %v", steps, ok)
	}
	listed(t, "Derived", g.Derived(), 0)
	listed(t, "Center", g.Center(), 0, 1)
	listed(t, "Orders of (aa)*", must[[]int](t)(groups.Orders(m)), 2)
	other := built(t, pairs())
	listed(t, "Orders of (ab)*", must[[]int](t)(groups.Orders(other)), 1, 1, 1, 1)
	for e, should := range map[int]api.Errno{1: api.ErrIdem, 9: api.ErrRange} {
		if g, wrong := groups.Of(other, e); g != nil || wrong != should {
			t.Errorf("Of(%d): %v, %d", e, g != nil, wrong)
		}
	}
}

// hasOneMember holds all calls of a group of e alone.
func hasOneMember(t *testing.T, name string, g *groups.Group, e int) {
	t.Helper()
	listed(t, name+": Members", g.Members(), e)
	listed(t, name+": Center", g.Center(), e)
	listed(t, name+": Derived", g.Derived(), e)
	if g.Order() != 1 || g.Exponent() != 1 || !g.Abelian() || !g.Cyclic() || !g.Has(e) {
		t.Errorf("%s: at %d: Order %d, Exponent %d, Abelian %v, Cyclic %v", name, e, g.Order(), g.Exponent(), g.Abelian(), g.Cyclic())
	}
	if must[int](t)(g.Inverse(e)) != e || must[int](t)(g.Period(e)) != 1 {
		t.Errorf("%s: %d is not alone", name, e)
	}
	if p := g.Profile(); !slices.Equal(p, []api.Times{{Order: 1, Count: 1}}) {
		t.Errorf("%s: Profile is %v", name, p)
	}
	if steps, ok := g.Solvable(); steps != 0 || !ok {
		t.Errorf("%s: Solvable is %d, %v", name, steps, ok)
	}
}

func TestP1702P1703P1704OneElement(t *testing.T) {
	for k := 1; k <= 8; k++ {
		for _, a := range []api.Auto{still(k, 1), still(k, 64)} {
			m := built(t, a)
			hasOneMember(t, brief(a), at(t, m, 0), 0)
			listed(t, "Orders", must[[]int](t)(groups.Orders(m)), 1)
		}
	}
}

func TestP1702P1703P1704GroupsOfOneMember(t *testing.T) {
	visitGroups(t, withoutGroups(), func(name string, m *monoid.Monoid, e int, g *groups.Group) { hasOneMember(t, name, g, e) })
	visit(t, withoutGroups(), func(name string, m *monoid.Monoid) {
		ones := slices.Repeat([]int{1}, len(must[[]int](t)(idem.List(m))))
		listed(t, name+": Orders", must[[]int](t)(groups.Orders(m)), ones...)
	})
}

// TestP1702P1703MonoidsThatAreGroups: the identity is the one idempotent, all elements are members.
func TestP1702P1703MonoidsThatAreGroups(t *testing.T) {
	visit(t, wholeGroups(), func(name string, m *monoid.Monoid) {
		listed(t, name+": Orders", must[[]int](t)(groups.Orders(m)), m.Len())
		g := at(t, m, 0)
		listed(t, name+": Members", g.Members(), numbers(m.Len())...)
		for i := range m.Len() {
			if !g.Has(i) {
				t.Errorf("%s: Has(%d) is false", name, i)
			}
		}
	})
}

// known is what is known of a group. The profile has periods and counts by turns; none, if it isn't told.
type known struct {
	name            string
	a               api.Auto
	order, exponent int
	abelian, cyclic bool
	center, derived int
	steps           int
	solvable        bool
	profile         []int
}

func knownOnes() []known {
	named := map[string]api.Auto{}
	for _, s := range wholeGroups() {
		named[s.name] = s.a
	}
	out := []known{
		{"rings of 2 and 2", counters(2, 2), 4, 2, true, false, 4, 1, 1, true, []int{1, 1, 2, 3}},
		{"rings of 2 and 4", counters(2, 4), 8, 4, true, false, 8, 1, 1, true, []int{1, 1, 2, 3, 4, 4}},
		{"rings of 3 and 5", byName, 15, 15, true, true, 15, 1, 1, true, []int{1, 1, 3, 2, 5, 4, 15, 8}},
		{"a ring of 64", byName, 64, 64, true, true, 64, 1, 1, true, []int{1, 1, 2, 1, 4, 2, 8, 4, 16, 8, 32, 16, 64, 32}},
		{"8 letters, a group of 512", byName, 512, 4, true, false, 512, 1, 1, true, []int{1, 1, 2, 255, 4, 256}},
		{"504 powers", byName, 504, 504, true, true, 504, 1, 1, true, nil},
		{"quaternions", byName, 8, 4, false, false, 2, 2, 2, true, []int{1, 1, 2, 1, 4, 6}},
		{"4 points, mirrored", byName, 8, 4, false, false, 2, 2, 2, true, []int{1, 1, 2, 5, 4, 2}},
		{"5 points, mirrored", byName, 10, 10, false, false, 1, 5, 2, true, []int{1, 1, 2, 5, 5, 4}},
		{"permutations of 1", byName, 1, 1, true, true, 1, 1, 0, true, []int{1, 1}},
		{"permutations of 2", byName, 2, 2, true, true, 2, 1, 1, true, []int{1, 1, 2, 1}},
		{"permutations of 3", byName, 6, 6, false, false, 1, 3, 2, true, []int{1, 1, 2, 3, 3, 2}},
		{"permutations of 4", byName, 24, 12, false, false, 1, 12, 3, true, []int{1, 1, 2, 9, 3, 8, 4, 6}},
		{"permutations of 5", byName, 120, 60, false, false, 1, 60, 0, false, []int{1, 1, 2, 25, 3, 20, 4, 30, 5, 24, 6, 20}},
		{"even permutations of 4", byName, 12, 6, false, false, 1, 4, 2, true, []int{1, 1, 2, 3, 3, 8}},
		{"even permutations of 5", byName, 60, 30, false, false, 1, 60, 0, false, []int{1, 1, 2, 15, 3, 20, 5, 24}},
		{"even permutations of 6", byName, 360, 60, false, false, 1, 360, 0, false, []int{1, 1, 2, 45, 3, 80, 4, 90, 5, 144}},
		{"special moves of 3", byName, 24, 12, false, false, 2, 8, 3, true, []int{1, 1, 2, 1, 3, 8, 4, 6, 6, 8}},
		{"special moves of 5", byName, 120, 60, false, false, 2, 120, 0, false, []int{1, 1, 2, 1, 3, 20, 4, 30, 5, 24, 6, 20, 10, 24}},
		{"all moves of 3", byName, 48, 24, false, false, 2, 24, 4, true, []int{1, 1, 2, 13, 3, 8, 4, 6, 6, 8, 8, 12}},
		{"special moves of 3 and a shift", byName, 216, 12, false, false, 1, 72, 4, true, nil},
		{"all moves of 3 and a shift", byName, 432, 24, false, false, 1, 216, 5, true, nil},
		{"shears of 3", byName, 27, 3, false, false, 3, 3, 2, true, []int{1, 1, 3, 26}},
		{"shears of 7", byName, 343, 7, false, false, 7, 7, 2, true, []int{1, 1, 7, 342}},
		{"the line of 7", byName, 168, 84, false, false, 1, 168, 0, false, []int{1, 1, 2, 21, 3, 56, 4, 42, 7, 48}},
		{"the line of 7, stretched", byName, 336, 168, false, false, 1, 168, 0, false, nil},
		{"the line of 8", byName, 504, 126, false, false, 1, 504, 0, false, []int{1, 1, 2, 63, 3, 56, 7, 216, 9, 168}},
		{"23 points, stretched", byName, 506, 506, false, false, 1, 23, 2, true, []int{1, 1, 2, 23, 11, 230, 22, 230, 23, 22}},
		{"halves of 8", byName, 128, 8, false, false, 2, 16, 3, true, nil},
		{"halves of 8 and a ring of 4", byName, 512, 8, false, false, 8, 16, 3, true, nil},
		{"four squares, knit", byName, 256, 4, false, false, 16, 16, 2, true, nil},
		{"three squares", byName, 512, 4, false, false, 8, 8, 2, true, nil},
		{"even permutations of 5 and a ring of 8", byName, 480, 120, false, false, 8, 60, 0, false, nil},
		{"permutations of 5 and a ring of 4", byName, 480, 60, false, false, 4, 60, 0, false, nil},
		{"permutations of 4 and even ones of 4", byName, 288, 12, false, false, 1, 48, 3, true, nil},
	}
	for i := range out {
		if out[i].a.Letters == 0 {
			out[i].a = named[out[i].name]
		}
	}
	return out
}

// byName stands for the automaton that has the name among wholeGroups.
var byName api.Auto

// isKnown holds the calls of a group.
func isKnown(t *testing.T, k known, g *groups.Group) {
	t.Helper()
	if g.Order() != k.order || len(g.Members()) != k.order || g.Exponent() != k.exponent || g.Abelian() != k.abelian || g.Cyclic() != k.cyclic {
		t.Errorf("%s: Order %d, Exponent %d, Abelian %v, Cyclic %v", k.name, g.Order(), g.Exponent(), g.Abelian(), g.Cyclic())
	}
	if len(g.Center()) != k.center || len(g.Derived()) != k.derived {
		t.Errorf("%s: Center has %d members, Derived %d", k.name, len(g.Center()), len(g.Derived()))
	}
	if steps, ok := g.Solvable(); steps != k.steps || ok != k.solvable {
		t.Errorf("%s: Solvable is %d, %v", k.name, steps, ok)
	}
	var profile []int
	for _, p := range g.Profile() {
		profile = append(profile, p.Order, p.Count)
	}
	if k.profile != nil && !slices.Equal(profile, k.profile) {
		t.Errorf("%s: Profile is %v", k.name, profile)
	}
}

// TestP1702P1703P1704KnownGroups: as whole monoids, behind the identity, and twice with products between the two.
func TestP1702P1703P1704KnownGroups(t *testing.T) {
	for _, k := range knownOnes() {
		isKnown(t, k, at(t, built(t, k.a), 0))
		if k.order == 1 {
			continue
		}
		if len(k.a.Accept) < 64 && k.order < 512 {
			m := built(t, late(k.a))
			orders := must[[]int](t)(groups.Orders(m))
			listed(t, k.name+", behind the identity: Orders", orders, 1, k.order)
			hasOneMember(t, k.name, at(t, m, 0), 0)
			isKnown(t, k, at(t, m, must[[]int](t)(idem.List(m))[1]))
		}
		if len(k.a.Accept) < 32 && k.order < 128 && k.a.Letters < 7 {
			m := built(t, twice(k.a))
			orders := must[[]int](t)(groups.Orders(m))
			for n, e := range must[[]int](t)(idem.List(m)) {
				if orders[n] > 1 {
					isKnown(t, k, at(t, m, e))
				}
			}
			slices.Sort(orders)
			listed(t, k.name+", twice: Orders", orders, 1, 1, k.order, k.order)
		}
	}
}

// TestP1702Orders: by rising idempotents, as many times as there are such.
func TestP1702Orders(t *testing.T) {
	// The idempotents are "", the zero, which a product of two letters is, and of each letter as many times as its ring is long.
	listed(t, "Orders of rings", must[[]int](t)(groups.Orders(built(t, lonely(3, 4, 5, 7, 11, 13, 17)))), 1, 1, 3, 4, 5, 7, 11, 13, 17)
	listed(t, "Orders of 512 powers", must[[]int](t)(groups.Orders(built(t, powers(8)))), 1, 504)
	for _, c := range []struct {
		name   string
		a      api.Auto
		orders map[int]int
	}{
		{"all maps of 4", allMaps(4), map[int]int{24: 1, 6: 12, 2: 24, 1: 4}},
		{"parts of 4", partial(4), map[int]int{24: 1, 6: 4, 2: 6, 1: 5}},
		{"all moves of 3, singular ones too", plane(3, append(special(), move{2, 0, 0, 1, 0, 0}, move{1, 0, 0, 0, 0, 0})...), map[int]int{48: 1, 2: 12, 1: 1}},
		{"32 points, mirrored, and steps", times(mirrored(32), beside(3, part{0, 1, 1}, part{1, 1, 1}, part{2, 1, 1})), map[int]int{64: 8}},
	} {
		m := built(t, c.a)
		orders := must[[]int](t)(groups.Orders(m))
		list := must[[]int](t)(idem.List(m))
		counts := map[int]int{}
		for n, order := range orders {
			counts[order]++
			if g := at(t, m, list[n]); g.Order() != order {
				t.Errorf("%s: at %d: Order is %d; should be %d", c.name, list[n], g.Order(), order)
			}
		}
		if len(counts) != len(c.orders) {
			t.Errorf("%s: so many groups of so many members: %v", c.name, counts)
		}
		for order, n := range c.orders {
			if counts[order] != n {
				t.Errorf("%s: %d groups have %d members; should be %d", c.name, counts[order], order, n)
			}
		}
	}
}

// TestP1703TheIdempotentNeedNotComeFirst: of 512 powers those from a^8 on are a group, whose one is a^504.
func TestP1703TheIdempotentNeedNotComeFirst(t *testing.T) {
	m := built(t, powers(8))
	hasOneMember(t, "at the identity", at(t, m, 0), 0)
	g := at(t, m, 504)
	members := numbers(512)[8:]
	listed(t, "Members", g.Members(), members...)
	listed(t, "Center", g.Center(), members...)
	listed(t, "Derived", g.Derived(), 504)
	if !g.Abelian() || !g.Cyclic() || g.Exponent() != 504 {
		t.Errorf("Abelian %v, Cyclic %v, Exponent %d", g.Abelian(), g.Cyclic(), g.Exponent())
	}
	for _, i := range members {
		should := 504 - i%504
		if should < 8 {
			should += 504
		}
		if j := must[int](t)(g.Inverse(i)); j != should {
			t.Errorf("Inverse(%d) is %d; should be %d", i, j, should)
		}
		period := 1
		for i*period%504 != 0 {
			period++
		}
		if n := must[int](t)(g.Period(i)); n != period {
			t.Errorf("Period(%d) is %d; should be %d", i, n, period)
		}
	}
	for i := range 8 {
		isNoMember(t, "512 powers", g, i)
	}
}

// isEven: do evenly many pairs of points change their order?
func isEven(t *testing.T, m *monoid.Monoid, points, i int) bool {
	t.Helper()
	to := must[api.Trans](t)(m.Trans(i))
	out := true
	for p := range points {
		for q := range p {
			if image(to, q) > image(to, p) {
				out = !out
			}
		}
	}
	return out
}

func image(t api.Trans, p int) int { return int(t.Words[p/10] >> (p % 10 * 6) & 63) }

// TestP1704DerivedGroupsByElement: of all permutations the even ones; of a mirrored ring those that turn by an even number.
func TestP1704DerivedGroupsByElement(t *testing.T) {
	for n := 2; n <= 5; n++ {
		m := built(t, turns(n))
		even := slices.DeleteFunc(numbers(m.Len()), func(i int) bool { return !isEven(t, m, n, i) })
		listed(t, "Derived of "+brief(turns(n)), at(t, m, 0).Derived(), even...)
	}
	for n := 3; n <= 64; n++ {
		m := built(t, mirrored(n))
		rotation := must[int](t)(m.Element("a"))
		var derived, center []int
		for i := range n {
			turned := must[int](t)(m.Power(rotation, uint64(i)))
			if i%2 == 0 || n%2 == 1 {
				derived = append(derived, turned)
			}
			if 2*i%n == 0 {
				center = append(center, turned)
			}
		}
		slices.Sort(derived)
		slices.Sort(center)
		listed(t, "Derived of "+brief(mirrored(n)), at(t, m, 0).Derived(), derived...)
		listed(t, "Center of "+brief(mirrored(n)), at(t, m, 0).Center(), center...)
	}
}

// TestP1704DerivedHasProductsOfSeveral: one of 16 members of a derived group is no i j i' j', but a product of two such.
func TestP1704DerivedHasProductsOfSeveral(t *testing.T) {
	m := built(t, knit())
	p := productsOf(t, m)
	g := at(t, m, 0)
	derived := g.Derived()
	commutators := map[int]int{}
	for i := range p {
		for j := range p {
			commutators[p.of(i, j, must[int](t)(g.Inverse(i)), must[int](t)(g.Inverse(j)))]++
		}
	}
	both := must[int](t)(m.Element("adadbcbc"))
	if len(commutators) != 15 || len(derived) != 16 || commutators[both] > 0 || !slices.Contains(derived, both) {
		t.Errorf("%d commutators, %v derived; adadbcbc is %d", len(commutators), derived, both)
	}
	for i := range commutators {
		if !slices.Contains(derived, i) {
			t.Errorf("%d is a commutator, and not in Derived", i)
		}
	}
}
