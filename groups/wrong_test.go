package groups_test

import (
	"math"
	"testing"

	"eggbox/api"
	"eggbox/groups"
	"eggbox/idem"
	"eggbox/monoid"
)

// isNoMember holds the calls of an element that is none of the members, or of no element.
func isNoMember(t *testing.T, name string, g *groups.Group, i int) {
	t.Helper()
	if g.Has(i) {
		t.Fatalf("%s: Has(%d) is true", name, i)
	}
	if j, e := g.Inverse(i); j != 0 || e != api.ErrNone {
		t.Fatalf("%s: Inverse(%d) is %d, %d", name, i, j, e)
	}
	if n, e := g.Period(i); n != 0 || e != api.ErrNone {
		t.Fatalf("%s: Period(%d) is %d, %d", name, i, n, e)
	}
}

// TestP1702NoElement: below 0, at how many there are and far past it.
func TestP1702NoElement(t *testing.T) {
	visit(t, samples(), func(name string, m *monoid.Monoid) {
		for _, none := range outside(m.Len()) {
			if g, e := groups.Of(m, none); g != nil || e != api.ErrRange {
				t.Fatalf("%s: Of(%d): %v, %d", name, none, g != nil, e)
			}
		}
	})
}

func TestP1702NoIdempotent(t *testing.T) {
	met := 0
	visit(t, samples(), func(name string, m *monoid.Monoid) {
		for i := range m.Len() {
			if must[int](t)(m.Product(i, i)) == i {
				continue
			}
			met++
			if g, e := groups.Of(m, i); g != nil || e != api.ErrIdem {
				t.Fatalf("%s: Of(%d): %v, %d", name, i, g != nil, e)
			}
		}
	})
	if met < 5000 {
		t.Errorf("%d elements are no idempotents", met)
	}
}

// TestP1703NoMember: elements of no group, members of other groups, and what is no element.
func TestP1703NoMember(t *testing.T) {
	met := 0
	visitGroups(t, samples(), func(name string, m *monoid.Monoid, e int, g *groups.Group) {
		for _, none := range outside(m.Len()) {
			isNoMember(t, name, g, none)
		}
		if m.Len() > 300 && g.Order() == 1 && e%7 > 0 {
			return
		}
		for i := range m.Len() {
			if must[int](t)(m.Product(i, e)) != i || must[int](t)(m.Product(e, i)) != i || must[int](t)(idem.Omega(m, i)) != e {
				met++
				isNoMember(t, name, g, i)
			}
		}
	})
	if met < 20000 {
		t.Errorf("%d elements are no members", met)
	}
}

// isNoMonoid holds Of and Orders to what they answer of a monoid that is none: this error comes ahead of all others.
func isNoMonoid(t *testing.T, m *monoid.Monoid) {
	t.Helper()
	for _, e := range []int{0, 1, 3, -1, 5, 9, 512, math.MinInt, math.MaxInt} {
		if g, wrong := groups.Of(m, e); g != nil || wrong != api.ErrArg {
			t.Errorf("no monoid: Of(%d): %v, %d", e, g != nil, wrong)
		}
	}
	if l, e := groups.Orders(m); len(l) != 0 || e != api.ErrArg {
		t.Errorf("no monoid: Orders is %v, %d", l, e)
	}
}

func TestP1702NoMonoid(t *testing.T) {
	isNoMonoid(t, nil)
	isNoMonoid(t, &monoid.Monoid{})
	isNoMonoid(t, new(monoid.Monoid))
	var zero monoid.Monoid
	isNoMonoid(t, &zero)
	refused, e := monoid.Build(turns(6))
	if e != api.ErrElems {
		t.Errorf("Build of 720 elements: %d", e)
	}
	isNoMonoid(t, refused)
	m := built(t, pairs())
	other := *m
	isNoMonoid(t, &other)
	at(t, m, 0)
}

// isNone holds a group that is none to what its calls answer.
func isNone(t *testing.T, g *groups.Group) {
	t.Helper()
	for _, i := range []int{0, 1, -1, 5, 512, math.MinInt, math.MaxInt} {
		if g.Has(i) {
			t.Errorf("no group: Has(%d) is true", i)
		}
		if j, e := g.Inverse(i); j != 0 || e != api.ErrArg {
			t.Errorf("no group: Inverse(%d) is %d, %d", i, j, e)
		}
		if n, e := g.Period(i); n != 0 || e != api.ErrArg {
			t.Errorf("no group: Period(%d) is %d, %d", i, n, e)
		}
	}
	if g.Order() != 0 || g.Exponent() != 0 {
		t.Errorf("no group: Order is %d, Exponent %d", g.Order(), g.Exponent())
	}
	if len(g.Members()) != 0 || len(g.Profile()) != 0 || len(g.Center()) != 0 || len(g.Derived()) != 0 {
		t.Errorf("no group: %v, %v, %v, %v", g.Members(), g.Profile(), g.Center(), g.Derived())
	}
	if g.Abelian() || g.Cyclic() {
		t.Errorf("no group: Abelian is %v, Cyclic %v", g.Abelian(), g.Cyclic())
	}
	if n, ok := g.Solvable(); n != 0 || ok {
		t.Errorf("no group: Solvable is %d, %v", n, ok)
	}
}

func TestP1701NoGroup(t *testing.T) {
	isNone(t, nil)
	isNone(t, &groups.Group{})
	isNone(t, new(groups.Group))
	var zero groups.Group
	isNone(t, &zero)
	m := built(t, pairs())
	for _, e := range []int{1, 2, -1, 6, 9} {
		refused, _ := groups.Of(m, e)
		isNone(t, refused)
	}
}

// TestP1701ACopyIsNone: Of did not make it, and the group stays what it is.
func TestP1701ACopyIsNone(t *testing.T) {
	for _, a := range []api.Auto{still(1, 1), even(), turns(4), powers(0)} {
		g := at(t, built(t, a), 0)
		before := answered(t, g)
		other := *g
		isNone(t, &other)
		if wrong := unlike(answered(t, g), before); wrong != "" {
			t.Errorf("a copy was made, and of the group %s", wrong)
		}
	}
}

// TestP1EveryInputEndsWithoutPanic: any numbers; each call answers its error alone, in their order.
func TestP1EveryInputEndsWithoutPanic(t *testing.T) {
	d := dice(7)
	met := map[api.Errno]int{}
	var monoids []*monoid.Monoid
	for _, s := range samples() {
		if s.elems < 200 {
			monoids = append(monoids, built(t, s.a))
		}
	}
	for range 3000 {
		m := monoids[d.below(len(monoids))]
		numbers := [2]int{d.below(m.Len()+3) - 1, d.below(m.Len()+3) - 1}
		if d.below(10) == 0 {
			numbers[d.below(2)] = int(d.roll()) >> d.below(64)
		}
		square, should := m.Product(numbers[0], numbers[0])
		if should == api.OK && square != numbers[0] {
			should = api.ErrIdem
		}
		g, e := groups.Of(m, numbers[0])
		if e != should || (g != nil) != (e == api.OK) {
			t.Fatalf("of %d elements: Of(%d): %v, %d; should be %d", m.Len(), numbers[0], g != nil, e, should)
		}
		met[e]++
		if e != api.OK {
			isNone(t, g)
		} else if i := numbers[1]; !g.Has(i) {
			isNoMember(t, "any", g, i)
		} else if n := must[int](t)(g.Period(i)); must[int](t)(m.Power(must[int](t)(g.Inverse(i)), uint64(n))) != numbers[0] {
			t.Fatalf("of %d elements: at %d: Period(%d) is %d", m.Len(), numbers[0], i, n)
		}
	}
	for _, e := range []api.Errno{api.OK, api.ErrRange, api.ErrIdem} {
		if met[e] < 100 {
			t.Errorf("of the calls %v", met)
		}
	}
}
