package holds_test

import (
	"fmt"
	"slices"
	"strings"
	"testing"

	"eggbox/api"
	"eggbox/holds"
	"eggbox/monoid"
)

// asked is an identity, with what may be put in for its variables.
type asked struct {
	id     api.Identity
	values []int
	list   []int
}

// questions are right ones and wrong ones.
func questions(m *monoid.Monoid, many int) []asked {
	d := dice(m.Len() + 5)
	var out []asked
	for range many {
		q := asked{id: d.id(12, []string{"xy", "yt", "x", "zt", "xyz"}[d.below(5)])}
		names := len(variablesOf(q.id))
		if names == 3 && m.Len() > 20 {
			continue
		}
		q.list = d.from(m.Len(), d.below(7))
		for range names + d.below(8)/7 {
			q.values = append(q.values, d.below(m.Len()))
		}
		switch d.below(12) {
		case 0:
			q.id.Left = q.id.Left[d.below(len(q.id.Left)):]
		case 1:
			q.id.Right[d.below(len(q.id.Right))].Name ^= 1
		case 2:
			q.list = append(q.list, m.Len())
		case 3:
			q.values = append(q.values, -1)
		}
		out = append(out, q)
	}
	return out
}

// portrait is what the calls answer, as a text.
func (q asked) portrait(m *monoid.Monoid) string {
	is, e := holds.Fails(m, q.id, q.values)
	all, values, wrong := holds.Holds(m, q.id)
	listed, others, more := holds.HoldsIn(m, q.id, q.list)
	n, last := holds.Count(m, q.id)
	return fmt.Sprint(is, e, all, len(values), values, wrong, listed, len(others), others, more, n, last)
}

// look is what a monoid answers, as a text.
func look(m *monoid.Monoid) string {
	var out strings.Builder
	z, is := m.Zero()
	out.WriteString(fmt.Sprint(m.Auto(), z, is))
	for i := range m.Len() {
		w, _ := m.Word(i)
		accept, _ := m.Accept(i)
		does, _ := m.Trans(i)
		out.WriteString(fmt.Sprint("\n", w, accept, does))
		for j := range m.Len() {
			p, _ := m.Product(i, j)
			out.WriteString(fmt.Sprint(" ", p))
		}
	}
	return out.String()
}

// roomy is a list with room behind it, in which something stands.
func roomy[T any](l []T, with T) []T {
	out := append(make([]T, 0, len(l)+9), l...)
	for i := range out[len(l):cap(out)] {
		out[len(l):cap(out)][i] = with
	}
	return out
}

// whole is a list with the room behind it, in new memory.
func whole[T any](l []T) []T { return slices.Clone(l[:cap(l)]) }

func TestP1WhatIsHandedInIsNotChanged(t *testing.T) {
	sign, number := api.Sign{Kind: 77, Name: 'q'}, -77
	visit(t, smallOnes(), func(name string, m *monoid.Monoid) {
		before := look(m)
		for _, q := range questions(m, 200) {
			should := q.portrait(m)
			r := asked{api.Identity{Left: roomy(q.id.Left, sign), Right: roomy(q.id.Right, sign), Less: q.id.Less}, roomy(q.values, number), roomy(q.list, number)}
			left, right, values, list := whole(r.id.Left), whole(r.id.Right), whole(r.values), whole(r.list)
			if r.portrait(m) != should {
				t.Fatalf("%s: %s: room behind the lists makes other answers", name, show(q.id))
			}
			if !slices.Equal(left, whole(r.id.Left)) || !slices.Equal(right, whole(r.id.Right)) || r.id.Less != q.id.Less {
				t.Fatalf("%s: %s was changed", name, show(q.id))
			}
			if !slices.Equal(values, whole(r.values)) || !slices.Equal(list, whole(r.list)) {
				t.Fatalf("%s: %s: the values or the list were changed", name, show(q.id))
			}
		}
		if look(m) != before {
			t.Errorf("%s: the monoid was changed", name)
		}
	})
}

// spoil writes over a list and the room behind it.
func spoil[T any](l []T, with T) {
	l = l[:cap(l)]
	for i := range l {
		l[i] = with
	}
}

// isNew holds a call to lists of which no two share anything, also where there is room behind them, and that nothing else hangs on.
func isNew(t *testing.T, call func() verdict) {
	t.Helper()
	one, two := call(), call()
	kept := slices.Clone(one.values)
	spoil(two.values, -9)
	if !slices.Equal(one.values, kept) || !slices.Equal(call().values, kept) {
		t.Fatalf("%v shares memory with another answer", kept)
	}
	spoil(one.values, -9)
	if !slices.Equal(call().values, kept) {
		t.Fatalf("%v shares memory with what is kept", kept)
	}
}

func TestP1ListsAreNew(t *testing.T) {
	some := identities(t, 60, 10, 3)
	visit(t, smallOnes(), func(name string, m *monoid.Monoid) {
		before := look(m)
		list := numbers(m.Len())
		slices.Reverse(list)
		handed := slices.Clone(list)
		for _, id := range some {
			isNew(t, func() verdict { return all(t, m, id) })
			isNew(t, func() verdict { return in(t, m, id, list) })
			// As many elements as the list has, which are in it in that order.
			for i := range list {
				isNew(t, func() verdict { return in(t, m, id, list[i:i+1]) })
			}
			if !slices.Equal(list, handed) {
				t.Fatalf("%s: %s: what is answered shares memory with the list", name, show(id))
			}
		}
		if look(m) != before {
			t.Errorf("%s: lists were changed, and the monoid has other answers", name)
		}
	})
}

// TestP1NothingIsKept: what was handed in may be changed when the call has answered.
func TestP1NothingIsKept(t *testing.T) {
	visit(t, smallOnes(), func(name string, m *monoid.Monoid) {
		for _, q := range questions(m, 40) {
			should := q.portrait(m)
			r := asked{api.Identity{Left: slices.Clone(q.id.Left), Right: slices.Clone(q.id.Right), Less: q.id.Less}, slices.Clone(q.values), slices.Clone(q.list)}
			_, values, _ := holds.HoldsIn(m, r.id, r.list)
			kept := slices.Clone(values)
			spoil(r.id.Left, api.Sign{Kind: api.One})
			spoil(r.id.Right, api.Sign{Kind: 9})
			spoil(r.values, 0)
			spoil(r.list, -1)
			if !slices.Equal(values, kept) {
				t.Fatalf("%s: %s: the answer shares memory with what was handed in", name, show(q.id))
			}
			if q.portrait(m) != should {
				t.Fatalf("%s: %s has other answers", name, show(q.id))
			}
		}
	})
}

// TestP1TheSameAnswerAgain: whatever was asked in between, of the same monoid or of one built again.
func TestP1TheSameAnswerAgain(t *testing.T) {
	for _, s := range slices.Concat(smallOnes(), greatOnes()[:6]) {
		m := built(t, s.a)
		many := 100
		if m.Len() > 20 {
			many = 12
		}
		all := questions(m, many)
		var first []string
		for _, q := range all {
			first = append(first, q.portrait(m))
		}
		again := built(t, s.a)
		for i, q := range slices.Backward(all) {
			if q.portrait(m) != first[i] || q.portrait(again) != first[i] {
				t.Fatalf("%s: %s has other answers after other calls", s.name, show(q.id))
			}
		}
	}
}

// TestP1ByManyAtOnce: calls of one monoid, and of one identity, do not meet one another.
func TestP1ByManyAtOnce(t *testing.T) {
	m := built(t, allMaps(3))
	all := questions(m, 60)
	answer := func() string {
		var out strings.Builder
		for _, q := range all {
			out.WriteString(q.portrait(m))
		}
		return out.String()
	}
	should := answer()
	answers := make(chan bool)
	for range 8 {
		go func() { answers <- answer() == should }()
	}
	for range 8 {
		if !<-answers {
			t.Error("calls at one time have other answers")
		}
	}
}
