package green_test

import (
	"slices"
	"strconv"
	"strings"
	"testing"

	"eggbox/api"
	"eggbox/green"
	"eggbox/monoid"
)

// portrait is what relations answer, as a text: all classes and boxes, and below what many elements are.
func portrait(g *green.Green) string {
	var out strings.Builder
	say := func(numbers ...int) {
		for _, n := range numbers {
			out.WriteString(strconv.Itoa(n) + " ")
		}
		out.WriteString("\n")
	}
	for _, kind := range kinds {
		classes, _ := g.Count(kind)
		height, _ := g.Height(kind)
		say(kind, classes, height)
		n := 0
		for c := range classes {
			l, _ := g.Members(kind, c)
			say(l...)
			n += len(l)
		}
		for i := range n {
			c, _ := g.Class(kind, i)
			say(c)
			for j := i % 7; j < n; j += 7 {
				is, _ := g.Below(kind, i, j)
				out.WriteString(strconv.FormatBool(is)[:1])
			}
		}
	}
	boxes, _ := g.Count(api.D)
	for c := range boxes {
		b, _ := g.Box(c)
		say(b.Rows, b.Cols, b.Each)
		out.WriteString(strconv.FormatBool(b.Regular))
		for _, line := range b.Cells {
			say(line...)
		}
	}
	return out.String()
}

// look is what a monoid answers, as a text.
func look(m *monoid.Monoid) string {
	var out strings.Builder
	a := m.Auto()
	z, is := m.Zero()
	out.WriteString(brief(a) + strconv.FormatBool(is) + strconv.Itoa(z))
	for i := range m.Len() {
		w, _ := m.Word(i)
		accept, _ := m.Accept(i)
		out.WriteString("\n" + w + " " + strconv.FormatBool(accept))
		for j := range m.Len() {
			p, _ := m.Product(i, j)
			out.WriteString(" " + strconv.Itoa(p))
		}
		for l := range m.Letters() {
			right, _ := m.Right(i, byte('a'+l))
			left, _ := m.Left(i, byte('a'+l))
			out.WriteString(" " + strconv.Itoa(right) + " " + strconv.Itoa(left))
		}
	}
	return out.String()
}

func TestP1WhatIsHandedInIsNotChanged(t *testing.T) {
	for _, s := range samples() {
		m := built(t, s.a)
		before := look(m)
		portrait(made(t, m))
		if look(m) != before {
			t.Errorf("%s: the monoid was changed", s.name)
		}
	}
}

// spoil writes over a list and the room behind it.
func spoil(l []int) {
	l = l[:cap(l)]
	for i := range l {
		l[i] = -9
	}
}

// spoilBox writes over a box's rows, the room behind them, and the list of rows.
func spoilBox(b api.Box) {
	for _, line := range b.Cells {
		spoil(line)
	}
	rows := b.Cells[:cap(b.Cells)]
	for i := range rows {
		rows[i] = []int{-9}
	}
}

func cloned(b api.Box) api.Box {
	b.Cells = slices.Clone(b.Cells)
	for i := range b.Cells {
		b.Cells[i] = slices.Clone(b.Cells[i])
	}
	return b
}

// TestP1MembersAreNew: two answers share nothing, also where there is room behind them, and none shares anything with the relations.
func TestP1MembersAreNew(t *testing.T) {
	for _, s := range samples() {
		g := made(t, built(t, s.a))
		before := portrait(g)
		for _, kind := range kinds {
			for c := range must[int](t)(g.Count(kind)) {
				one, two := must[[]int](t)(g.Members(kind, c)), must[[]int](t)(g.Members(kind, c))
				kept := slices.Clone(one)
				spoil(two)
				if !slices.Equal(one, kept) || !slices.Equal(must[[]int](t)(g.Members(kind, c)), kept) {
					t.Fatalf("%s: Members(%d, %d) shares memory", s.name, kind, c)
				}
				spoil(one)
			}
		}
		if portrait(g) != before {
			t.Errorf("%s: Members' answers were changed, and the relations have other answers", s.name)
		}
	}
}

func TestP1BoxesAreNew(t *testing.T) {
	for _, s := range samples() {
		g := made(t, built(t, s.a))
		before := portrait(g)
		for c := range must[int](t)(g.Count(api.D)) {
			one, two := must[api.Box](t)(g.Box(c)), must[api.Box](t)(g.Box(c))
			kept := cloned(one)
			spoilBox(two)
			if !sameBox(one, kept) || !sameBox(must[api.Box](t)(g.Box(c)), kept) {
				t.Fatalf("%s: Box(%d) shares memory", s.name, c)
			}
			// No two rows share anything.
			for at, line := range one.Cells {
				spoil(line)
				if later := one.Cells[at+1:]; !slices.EqualFunc(later, kept.Cells[at+1:], slices.Equal) {
					t.Fatalf("%s: rows of Box(%d) share memory", s.name, c)
				}
			}
			spoilBox(one)
		}
		if portrait(g) != before {
			t.Errorf("%s: Box's answers were changed, and the relations have other answers", s.name)
		}
	}
}

// TestP1RelationsShareNothing: D's classes are J's, and two Greens of one monoid answer alike, yet what one answers is not the other's.
func TestP1RelationsShareNothing(t *testing.T) {
	m := built(t, allMaps(3))
	one, two := made(t, m), made(t, m)
	before := portrait(two)
	for c := range must[int](t)(one.Count(api.J)) {
		byJ := must[[]int](t)(one.Members(api.J, c))
		kept := slices.Clone(byJ)
		spoil(must[[]int](t)(one.Members(api.D, c)))
		if !slices.Equal(byJ, kept) {
			t.Errorf("Members by J and by D share memory")
		}
		spoilBox(must[api.Box](t)(one.Box(c)))
	}
	if portrait(two) != before || portrait(one) != before {
		t.Errorf("two Greens of one monoid share memory")
	}
}

// TestP1TheSameAnswerAgain: whatever was made and asked in between, of the same monoid or of one built again.
func TestP1TheSameAnswerAgain(t *testing.T) {
	all := samples()
	var first []string
	var monoids []*monoid.Monoid
	var relations []*green.Green
	for _, s := range all {
		m := built(t, s.a)
		g := made(t, m)
		monoids = append(monoids, m)
		relations = append(relations, g)
		first = append(first, portrait(g))
	}
	for i, s := range slices.Backward(all) {
		if portrait(relations[i]) != first[i] {
			t.Errorf("%s has other answers after other calls", s.name)
		}
		if portrait(made(t, monoids[i])) != first[i] || portrait(made(t, built(t, s.a))) != first[i] {
			t.Errorf("%s, made again, has other answers", s.name)
		}
	}
}
