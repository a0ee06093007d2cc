package order_test

import (
	"math"
	"testing"

	"eggbox/api"
	"eggbox/bits"
	"eggbox/monoid"
	"eggbox/order"
)

// twoAreRefused holds the calls of two elements to an error alone.
func twoAreRefused(t *testing.T, name string, m *monoid.Monoid, i, j int, should api.Errno) {
	t.Helper()
	if is, e := order.Leq(m, i, j); is || e != should {
		t.Fatalf("%s: Leq(%d, %d) is %v, %d", name, i, j, is, e)
	}
	if is, e := order.Same(m, i, j); is || e != should {
		t.Fatalf("%s: Same(%d, %d) is %v, %d", name, i, j, is, e)
	}
	if u, v, found, e := order.Context(m, i, j); u != "" || v != "" || found || e != should {
		t.Fatalf("%s: Context(%d, %d) is %q, %q, %v, %d", name, i, j, u, v, found, e)
	}
	if u, v, found, e := order.Apart(m, i, j); u != "" || v != "" || found || e != should {
		t.Fatalf("%s: Apart(%d, %d) is %q, %q, %v, %d", name, i, j, u, v, found, e)
	}
}

// oneIsRefused holds Up to an error alone.
func oneIsRefused(t *testing.T, name string, m *monoid.Monoid, i int, should api.Errno) {
	t.Helper()
	if set, e := order.Up(m, i); set != (api.Set{}) || e != should {
		t.Fatalf("%s: Up(%d) is %v, %d", name, i, bits.List(set), e)
	}
}

// TestP18_2P18_3NoElement: below 0, at how many there are and far past it; the first one, the second one, both.
func TestP18_2P18_3NoElement(t *testing.T) {
	visit(t, samples(), func(name string, m *monoid.Monoid) {
		none := outside(m.Len())
		for at, i := range none {
			oneIsRefused(t, name, m, i, api.ErrRange)
			for _, j := range []int{0, m.Len() / 2, m.Len() - 1} {
				twoAreRefused(t, name, m, i, j, api.ErrRange)
				twoAreRefused(t, name, m, j, i, api.ErrRange)
			}
			twoAreRefused(t, name, m, i, i, api.ErrRange)
			twoAreRefused(t, name, m, i, none[(at+1)%len(none)], api.ErrRange)
			twoAreRefused(t, name, m, i, none[(at+5)%len(none)], api.ErrRange)
		}
	})
}

// isNoMonoid holds all calls to what they answer of a monoid that is none: this error comes ahead of all others.
func isNoMonoid(t *testing.T, m *monoid.Monoid) {
	t.Helper()
	if l, e := order.States(m); len(l) != 0 || e != api.ErrArg {
		t.Errorf("no monoid: States are %v, %d", lists(l), e)
	}
	if l, e := order.Classes(m); len(l) != 0 || e != api.ErrArg {
		t.Errorf("no monoid: Classes are %v, %d", l, e)
	}
	numbers := []int{0, 1, 3, -1, 5, 6, 512, math.MinInt, math.MaxInt}
	for _, i := range numbers {
		oneIsRefused(t, "no monoid", m, i, api.ErrArg)
		for _, j := range numbers {
			twoAreRefused(t, "no monoid", m, i, j, api.ErrArg)
		}
	}
}

func TestP18_1P18_2P18_3NoMonoid(t *testing.T) {
	isNoMonoid(t, nil)
	isNoMonoid(t, &monoid.Monoid{})
	isNoMonoid(t, new(monoid.Monoid))
	var zero monoid.Monoid
	isNoMonoid(t, &zero)
	refused, e := monoid.Build(turns(6))
	if e != api.ErrElems {
		t.Errorf("Build of 720 elements: %d", e)
	}
	isNoMonoid(t, refused)
	refused, e = monoid.Build(still(1, 65))
	if e != api.ErrStates {
		t.Errorf("Build of 65 states: %d", e)
	}
	isNoMonoid(t, refused)
	m := built(t, pairs())
	before := portrait(m)
	other := *m
	isNoMonoid(t, &other)
	if portrait(m) != before {
		t.Error("a copy was made, and the monoid has other answers")
	}
}

// TestP1EveryInputEndsWithoutPanic: any numbers; each call answers its error alone, in their order.
func TestP1EveryInputEndsWithoutPanic(t *testing.T) {
	d := dice(9)
	met := map[api.Errno]int{}
	monoids := []*monoid.Monoid{nil, {}}
	for _, s := range samples() {
		monoids = append(monoids, built(t, s.a))
	}
	for range 4000 {
		m := monoids[d.below(len(monoids))]
		i, j := d.below(m.Len()+3)-1, d.below(m.Len()+3)-1
		switch d.below(10) {
		case 0:
			i = int(d.roll()) >> d.below(64)
		case 1:
			j = int(d.roll()) >> d.below(64)
		}
		is := func(x int) bool { return x >= 0 && x < m.Len() }
		should := api.OK
		switch {
		case m.Len() == 0:
			should = api.ErrArg
		case !is(i) || !is(j):
			should = api.ErrRange
		}
		met[should]++
		if should != api.OK {
			twoAreRefused(t, "any", m, i, j, should)
		} else if leq, e := order.Leq(m, i, j); e != api.OK || leq != bits.Has(must[api.Set](t)(order.Up(m, i)), j) {
			t.Fatalf("of %d elements: Leq(%d, %d) is %v, %d", m.Len(), i, j, leq, e)
		}
		if should == api.ErrArg || !is(i) {
			oneIsRefused(t, "any", m, i, should)
		}
	}
	for _, e := range []api.Errno{api.OK, api.ErrRange, api.ErrArg} {
		if met[e] < 30 {
			t.Errorf("of the calls %v", met)
		}
	}
}
