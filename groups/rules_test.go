package groups_test

import (
	"fmt"
	"slices"
	"strconv"
	"strings"
	"testing"

	"eggbox/api"
	"eggbox/groups"
	"eggbox/idem"
	"eggbox/monoid"
)

// portrait is what the calls answer of a group, as a text, also of numbers that are no members.
func portrait(g *groups.Group, elems int) string {
	steps, ok := g.Solvable()
	out := fmt.Sprint(g.Order(), g.Members(), g.Exponent(), g.Abelian(), g.Cyclic(), g.Profile(), g.Center(), g.Derived(), steps, ok)
	for i := range elems + 1 {
		j, e := g.Inverse(i)
		n, wrong := g.Period(i)
		out += fmt.Sprint(" ", g.Has(i), j, e, n, wrong)
	}
	return out
}

// portraits are those of all groups of a monoid.
func portraits(m *monoid.Monoid) string {
	var out strings.Builder
	orders, e := groups.Orders(m)
	out.WriteString(fmt.Sprint(orders, e))
	list, _ := idem.List(m)
	for _, e := range list {
		g, _ := groups.Of(m, e)
		out.WriteString("\n" + portrait(g, min(m.Len(), 100)))
	}
	return out.String()
}

// look is what a monoid answers, as a text.
func look(m *monoid.Monoid) string {
	var out strings.Builder
	a := m.Auto()
	z, is := m.Zero()
	out.WriteString(brief(a) + strconv.FormatBool(is) + strconv.Itoa(z))
	for i := range m.Len() {
		w, _ := m.Word(i)
		accept, _ := m.Accept(i)
		out.WriteString("\n" + w + " " + strconv.FormatBool(accept))
		for j := range m.Len() {
			p, _ := m.Product(i, j)
			out.WriteString(" " + strconv.Itoa(p))
		}
		for l := range m.Letters() {
			right, _ := m.Right(i, byte('a'+l))
			left, _ := m.Left(i, byte('a'+l))
			out.WriteString(" " + strconv.Itoa(right) + " " + strconv.Itoa(left))
		}
	}
	return out.String()
}

func TestP1WhatIsHandedInIsNotChanged(t *testing.T) {
	visit(t, samples(), func(name string, m *monoid.Monoid) {
		before := look(m)
		portraits(m)
		if look(m) != before {
			t.Errorf("%s: the monoid was changed", name)
		}
	})
}

// spoil writes over a list and the room behind it.
func spoil[T any](l []T, with T) {
	l = l[:cap(l)]
	for i := range l {
		l[i] = with
	}
}

// isNew holds a call to lists of which no two share anything, also where there is room behind them, and that nothing else hangs on.
func isNew[T comparable](t *testing.T, name string, with T, call func() []T) {
	t.Helper()
	one, two := call(), call()
	kept := slices.Clone(one)
	spoil(two, with)
	if !slices.Equal(one, kept) || !slices.Equal(call(), kept) {
		t.Fatalf("%s shares memory", name)
	}
	spoil(one, with)
	if !slices.Equal(call(), kept) {
		t.Fatalf("%s shares memory with what is kept", name)
	}
}

// TestP1ListsAreNew: they share nothing with the group, the monoid and one another.
func TestP1ListsAreNew(t *testing.T) {
	visit(t, samples(), func(name string, m *monoid.Monoid) {
		before := look(m)
		isNew(t, name+": Orders", -9, func() []int { return must[[]int](t)(groups.Orders(m)) })
		for _, e := range must[[]int](t)(idem.List(m)) {
			g := at(t, m, e)
			if g.Order() == 1 && e%5 > 0 {
				continue
			}
			first := portrait(g, min(m.Len(), 100))
			isNew(t, name+": Members", -9, g.Members)
			isNew(t, name+": Center", -9, g.Center)
			isNew(t, name+": Derived", -9, g.Derived)
			isNew(t, name+": Profile", api.Times{Order: -9, Count: -9}, g.Profile)
			lists := [][]int{g.Members(), g.Center(), g.Derived()}
			for i := range lists {
				kept := slices.Clone(lists[(i+1)%3])
				spoil(lists[i], -9)
				if !slices.Equal(lists[(i+1)%3], kept) {
					t.Fatalf("%s: at %d: two lists share memory", name, e)
				}
			}
			if portrait(g, min(m.Len(), 100)) != first {
				t.Fatalf("%s: at %d: lists were changed, and there are other answers", name, e)
			}
		}
		if look(m) != before {
			t.Errorf("%s: lists were changed, and the monoid has other answers", name)
		}
	})
}

// TestP1TheSameAnswerAgain: whatever was asked in between, of the same monoid or of one built again.
func TestP1TheSameAnswerAgain(t *testing.T) {
	all := samples()
	var first []string
	var monoids []*monoid.Monoid
	for _, s := range all {
		m := built(t, s.a)
		monoids = append(monoids, m)
		first = append(first, portraits(m))
	}
	for i, s := range slices.Backward(all) {
		if portraits(monoids[i]) != first[i] {
			t.Errorf("%s has other answers after other calls", s.name)
		}
		if portraits(built(t, s.a)) != first[i] {
			t.Errorf("%s, built again, has other answers", s.name)
		}
	}
}

// TestP1GroupsOfOneMonoidAreApart: one made at each idempotent, and then all asked; each answers of its own.
func TestP1GroupsOfOneMonoidAreApart(t *testing.T) {
	for _, a := range []api.Auto{allMaps(3), partial(4), lonely(3, 4, 5, 7), twice(turns(4)), powers(8)} {
		m := built(t, a)
		list := must[[]int](t)(idem.List(m))
		var all, again []*groups.Group
		var first []string
		for _, e := range list {
			all = append(all, at(t, m, e))
			first = append(first, portrait(at(t, m, e), m.Len()))
		}
		for _, e := range list {
			again = append(again, at(t, m, e))
		}
		for n, e := range list {
			if all[n] == again[n] {
				t.Errorf("%s: Of(%d) answers one group two times", brief(a), e)
			}
			if portrait(all[n], m.Len()) != first[n] || portrait(again[n], m.Len()) != first[n] {
				t.Errorf("%s: at %d: other answers, once other groups are made", brief(a), e)
			}
		}
	}
}

// TestP1ByManyAtOnce: calls of one monoid, and of one group, do not meet one another.
func TestP1ByManyAtOnce(t *testing.T) {
	m := built(t, allMaps(4))
	g := at(t, m, 0)
	should, shouldOfOne := portraits(m), portrait(g, m.Len())
	answers := make(chan bool)
	for range 8 {
		go func() { answers <- portraits(m) == should && portrait(g, m.Len()) == shouldOfOne }()
	}
	for range 8 {
		if !<-answers {
			t.Error("calls at one time have other answers")
		}
	}
}
