package idem_test

import (
	"slices"
	"strconv"
	"strings"
	"testing"

	"eggbox/api"
	"eggbox/idem"
	"eggbox/monoid"
)

// portrait is what the calls answer of a monoid, as a text.
func portrait(m *monoid.Monoid) string {
	var out strings.Builder
	say := func(numbers ...int) {
		for _, n := range numbers {
			out.WriteString(strconv.Itoa(n) + " ")
		}
		out.WriteString("\n")
	}
	list, _ := idem.List(m)
	say(list...)
	n, _ := idem.Exponent(m)
	say(n)
	for i := range m.Len() {
		is, _ := idem.Idempotent(m, i)
		regular, _ := idem.Regular(m, i)
		out.WriteString(strconv.FormatBool(is) + strconv.FormatBool(regular))
		omega, _ := idem.Omega(m, i)
		index, period, _ := idem.Cycle(m, i)
		say(omega, index, period)
		inverses, _ := idem.Inverses(m, i)
		say(inverses...)
		between, _ := idem.Between(m, i)
		say(between...)
		for _, f := range list {
			below, e := idem.Below(m, i, f)
			out.WriteString(strconv.FormatBool(below)[:1] + strconv.Itoa(int(e)))
		}
	}
	return out.String()
}

// look is what a monoid answers, as a text.
func look(m *monoid.Monoid) string {
	var out strings.Builder
	a := m.Auto()
	z, is := m.Zero()
	out.WriteString(brief(a) + strconv.FormatBool(is) + strconv.Itoa(z))
	for i := range m.Len() {
		w, _ := m.Word(i)
		accept, _ := m.Accept(i)
		out.WriteString("\n" + w + " " + strconv.FormatBool(accept))
		for j := range m.Len() {
			p, _ := m.Product(i, j)
			out.WriteString(" " + strconv.Itoa(p))
		}
		for l := range m.Letters() {
			right, _ := m.Right(i, byte('a'+l))
			left, _ := m.Left(i, byte('a'+l))
			out.WriteString(" " + strconv.Itoa(right) + " " + strconv.Itoa(left))
		}
	}
	return out.String()
}

func TestP1WhatIsHandedInIsNotChanged(t *testing.T) {
	for _, s := range samples() {
		m := built(t, s.a)
		before := look(m)
		portrait(m)
		if look(m) != before {
			t.Errorf("%s: the monoid was changed", s.name)
		}
	}
}

// spoil writes over a list and the room behind it.
func spoil(l []int) {
	l = l[:cap(l)]
	for i := range l {
		l[i] = -9
	}
}

// TestP1ListsAreNew: two answers share nothing, also where there is room behind them, and none shares anything with the monoid.
func TestP1ListsAreNew(t *testing.T) {
	for _, s := range samples() {
		m := built(t, s.a)
		before, monoidBefore := portrait(m), look(m)
		for i := range m.Len() {
			for name, call := range map[string]func() ([]int, api.Errno){
				"List":     func() ([]int, api.Errno) { return idem.List(m) },
				"Inverses": func() ([]int, api.Errno) { return idem.Inverses(m, i) },
				"Between":  func() ([]int, api.Errno) { return idem.Between(m, i) },
			} {
				one, _ := call()
				two, _ := call()
				kept := slices.Clone(one)
				spoil(two)
				if again, _ := call(); !slices.Equal(one, kept) || !slices.Equal(again, kept) {
					t.Fatalf("%s: %s shares memory", s.name, name)
				}
				spoil(one)
			}
		}
		if portrait(m) != before || look(m) != monoidBefore {
			t.Errorf("%s: lists were changed, and there are other answers", s.name)
		}
	}
}

// TestP1TheSameAnswerAgain: whatever was asked in between, of the same monoid or of one built again.
func TestP1TheSameAnswerAgain(t *testing.T) {
	all := samples()
	var first []string
	var monoids []*monoid.Monoid
	for _, s := range all {
		m := built(t, s.a)
		monoids = append(monoids, m)
		first = append(first, portrait(m))
	}
	for i, s := range slices.Backward(all) {
		if portrait(monoids[i]) != first[i] {
			t.Errorf("%s has other answers after other calls", s.name)
		}
		if portrait(built(t, s.a)) != first[i] {
			t.Errorf("%s, built again, has other answers", s.name)
		}
	}
}

// TestP1ByManyAtOnce: calls of one monoid do not meet one another.
func TestP1ByManyAtOnce(t *testing.T) {
	m := built(t, allMaps(3))
	should := portrait(m)
	answers := make(chan string)
	for range 8 {
		go func() { answers <- portrait(m) }()
	}
	for range 8 {
		if <-answers != should {
			t.Error("calls at one time have other answers")
		}
	}
}
