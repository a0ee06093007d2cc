package order_test

import (
	"fmt"
	"slices"
	"strconv"
	"strings"
	"testing"

	"eggbox/api"
	"eggbox/bits"
	"eggbox/monoid"
	"eggbox/order"
)

// portrait is what the calls answer of a monoid, as a text, also of numbers that are no elements.
func portrait(m *monoid.Monoid) string {
	var out strings.Builder
	states, e := order.States(m)
	classes, wrong := order.Classes(m)
	out.WriteString(fmt.Sprint(lists(states), e, classes, wrong))
	n := m.Len()
	for i := -1; i <= n; i += 1 + n/7 {
		above, e := order.Up(m, i)
		out.WriteString(fmt.Sprint("\n", i, bits.List(above), e))
		for j := -1; j <= n; j += 1 + n/5 {
			leq, e := order.Leq(m, i, j)
			same, wrong := order.Same(m, i, j)
			out.WriteString(fmt.Sprint(" ", j, leq, e, same, wrong))
			u, v, found, e := order.Context(m, i, j)
			out.WriteString(fmt.Sprint(u, ",", v, found, e))
			u, v, found, e = order.Apart(m, i, j)
			out.WriteString(fmt.Sprint(u, ",", v, found, e))
		}
	}
	return out.String()
}

// look is what a monoid answers, as a text.
func look(m *monoid.Monoid) string {
	var out strings.Builder
	a := m.Auto()
	z, is := m.Zero()
	out.WriteString(brief(a) + strconv.FormatBool(is) + strconv.Itoa(z))
	for i := range m.Len() {
		w, _ := m.Word(i)
		accept, _ := m.Accept(i)
		does, _ := m.Trans(i)
		out.WriteString("\n" + w + " " + strconv.FormatBool(accept) + fmt.Sprint(does))
		for j := range m.Len() {
			p, _ := m.Product(i, j)
			out.WriteString(" " + strconv.Itoa(p))
		}
		for l := range m.Letters() {
			right, _ := m.Right(i, byte('a'+l))
			left, _ := m.Left(i, byte('a'+l))
			out.WriteString(" " + strconv.Itoa(right) + " " + strconv.Itoa(left))
		}
	}
	return out.String()
}

func TestP1WhatIsHandedInIsNotChanged(t *testing.T) {
	visit(t, samples(), func(name string, m *monoid.Monoid) {
		before := look(m)
		portrait(m)
		if look(m) != before {
			t.Errorf("%s: the monoid was changed", name)
		}
	})
}

// spoil writes over a list and the room behind it.
func spoil[T any](l []T, with T) {
	l = l[:cap(l)]
	for i := range l {
		l[i] = with
	}
}

// isNew holds a call to lists of which no two share anything, also where there is room behind them, and that nothing else hangs on.
func isNew[T comparable](t *testing.T, name string, with T, call func() []T) {
	t.Helper()
	one, two := call(), call()
	kept := slices.Clone(one)
	spoil(two, with)
	if !slices.Equal(one, kept) || !slices.Equal(call(), kept) {
		t.Fatalf("%s shares memory", name)
	}
	spoil(one, with)
	if !slices.Equal(call(), kept) {
		t.Fatalf("%s shares memory with what is kept", name)
	}
}

// TestP1ListsAreNew: they share nothing with the monoid and one another.
func TestP1ListsAreNew(t *testing.T) {
	visit(t, samples(), func(name string, m *monoid.Monoid) {
		before, first := look(m), portrait(m)
		isNew(t, name+": States", api.Set{1 << 63, 5}, func() []api.Set { return must[[]api.Set](t)(order.States(m)) })
		isNew(t, name+": Classes", -9, func() []int { return must[[]int](t)(order.Classes(m)) })
		if portrait(m) != first {
			t.Errorf("%s: lists were changed, and there are other answers", name)
		}
		if look(m) != before {
			t.Errorf("%s: lists were changed, and the monoid has other answers", name)
		}
	})
}

// TestP1TheSameAnswerAgain: whatever was asked in between, of the same monoid or of one built again.
func TestP1TheSameAnswerAgain(t *testing.T) {
	all := samples()
	var first []string
	var monoids []*monoid.Monoid
	for _, s := range all {
		m := built(t, s.a)
		monoids = append(monoids, m)
		first = append(first, portrait(m))
	}
	for i, s := range slices.Backward(all) {
		if portrait(monoids[i]) != first[i] {
			t.Errorf("%s has other answers after other calls", s.name)
		}
		if portrait(built(t, s.a)) != first[i] {
			t.Errorf("%s, built again, has other answers", s.name)
		}
	}
}

// TestP1ByManyAtOnce: calls of one monoid do not meet one another.
func TestP1ByManyAtOnce(t *testing.T) {
	m := built(t, doubled(rising(6)))
	should := portrait(m)
	answers := make(chan bool)
	for range 8 {
		go func() { answers <- portrait(m) == should }()
	}
	for range 8 {
		if !<-answers {
			t.Error("calls at one time have other answers")
		}
	}
}
