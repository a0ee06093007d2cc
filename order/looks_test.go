package order_test

import (
	"slices"
	"strings"
	"testing"

	"eggbox/api"
	"eggbox/auto"
	"eggbox/bits"
	"eggbox/minim"
	"eggbox/monoid"
	"eggbox/order"
)

// listed holds a list.
func listed(t *testing.T, name string, got []int, should ...int) {
	t.Helper()
	if !slices.Equal(got, should) {
		t.Errorf("%s is %v; should be %v", name, got, should)
	}
}

// up is Up's list.
func up(t *testing.T, m *monoid.Monoid, i int) []int {
	t.Helper()
	return bits.List(must[api.Set](t)(order.Up(m, i)))
}

// relates holds Leq, Same and what shows them, of two elements.
func relates(t *testing.T, m *monoid.Monoid, i, j int, context, apart context) {
	t.Helper()
	if is := must[bool](t)(order.Leq(m, i, j)); is == context.found {
		t.Errorf("of %d elements: Leq(%d, %d) is %v", m.Len(), i, j, is)
	}
	if is := must[bool](t)(order.Same(m, i, j)); is == apart.found {
		t.Errorf("of %d elements: Same(%d, %d) is %v", m.Len(), i, j, is)
	}
	if got := contextOf(t, m, i, j); got != context {
		t.Errorf("of %d elements: Context(%d, %d) is %v; should be %v", m.Len(), i, j, got, context)
	}
	if got := apartOf(t, m, i, j); got != apart {
		t.Errorf("of %d elements: Apart(%d, %d) is %v; should be %v", m.Len(), i, j, got, apart)
	}
}

func TestP18_1P18_2P18_3Examples(t *testing.T) {
	m := built(t, pairs())
	for i, w := range []string{"", "a", "b", "aa", "ab", "ba"} {
		if got := must[int](t)(m.Element(w)); got != i {
			t.Fatalf("%q is the element %d", w, got)
		}
	}
	states := must[[]api.Set](t)(order.States(m))
	if len(states) != 3 {
		t.Fatalf("States are %v", lists(states))
	}
	listed(t, "the set of 0", bits.List(states[0]), 0)
	listed(t, "the set of 1", bits.List(states[1]), 1)
	listed(t, "the set of 2", bits.List(states[2]), 0, 1, 2)
	none := context{}
	relates(t, m, 3, 1, none, context{"", "b", true})
	relates(t, m, 1, 3, context{"", "b", true}, context{"", "b", true})
	relates(t, m, 4, 0, none, context{"a", "b", true})
	relates(t, m, 0, 4, context{"a", "b", true}, context{"a", "b", true})
	relates(t, m, 4, 4, none, none)
	// In order neither way: b follows a alone, a nothing or b.
	relates(t, m, 1, 2, context{"", "b", true}, context{"", "b", true})
	relates(t, m, 2, 1, context{"a", "", true}, context{"", "b", true})
	listed(t, "Up(M, 4)", up(t, m, 4), 0, 4)
	listed(t, "Up(M, 3)", up(t, m, 3), 0, 1, 2, 3, 4, 5)
	listed(t, "Classes", must[[]int](t)(order.Classes(m)), 0, 1, 2, 3, 4, 5)
	if is, e := order.Leq(m, 6, 0); is || e != api.ErrRange {
		t.Errorf("Leq(M, 6, 0) is %v, %d", is, e)
	}
}

// allAreSame holds a monoid whose elements no context tells apart.
func allAreSame(t *testing.T, name string, m *monoid.Monoid) {
	t.Helper()
	all := must[api.Set](t)(bits.Below(m.Len()))
	for i := range m.Len() {
		if got := must[api.Set](t)(order.Up(m, i)); got != all {
			t.Fatalf("%s: Up(%d) is %v", name, i, bits.List(got))
		}
		relates(t, m, i, m.Len()-1, context{}, context{})
	}
	if got := must[[]int](t)(order.Classes(m)); !slices.Equal(got, make([]int, m.Len())) {
		t.Fatalf("%s: Classes are %v", name, got)
	}
	states := len(m.Auto().Accept)
	if got := must[[]api.Set](t)(order.States(m)); len(got) != states {
		t.Fatalf("%s: of %d states States are %v", name, states, lists(got))
	}
}

func TestP18_1P18_2P18_3OneElement(t *testing.T) {
	for k := 1; k <= 8; k++ {
		for _, a := range []api.Auto{still(k, 1), not(still(k, 1)), still(k, 2), not(still(k, 5)), still(k, 64)} {
			m := built(t, a)
			if m.Len() != 1 {
				t.Fatalf("%s: %d elements", brief(a), m.Len())
			}
			allAreSame(t, brief(a), m)
		}
		listed(t, "the set of the one state", bits.List(must[[]api.Set](t)(order.States(built(t, still(k, 1))))[0]), 0)
	}
	// From the states that stay and aren't accepted nothing is.
	states := must[[]api.Set](t)(order.States(built(t, still(2, 64))))
	for s, set := range states {
		if n := bits.Size(set); s%3 == 0 && n != 22 || s%3 > 0 && n != 64 {
			t.Errorf("64 that stay: the set of %d is %v", s, bits.List(set))
		}
	}
}

// TestP18_2P18_3NothingOrAllAccepted: no context lets one in and another one not.
func TestP18_2P18_3NothingOrAllAccepted(t *testing.T) {
	for _, a := range []api.Auto{allMaps(4), rising(6), seen(6), powers(8), turns(5), around(8), late(pairs())} {
		for _, is := range []bool{true, false} {
			a = accepting(a, func(s int) bool { return is })
			allAreSame(t, brief(a), built(t, a))
		}
	}
}

// TestP18_1P18_2P18_3OrderOfStates: where letters keep the states' order and the upper ones are accepted, elements stand as they take the states up.
func TestP18_1P18_2P18_3OrderOfStates(t *testing.T) {
	oneWay, neither := 0, 0
	for _, a := range []api.Auto{rising(2), rising(4), rising(5), bending(3), bending(4), atLast(part{0, 63, 1}.auto(1))} {
		n := len(a.Accept)
		m := built(t, a)
		for s, set := range must[[]api.Set](t)(order.States(m)) {
			listed(t, brief(a), bits.List(set), numbers(n)[s:]...)
		}
		below := func(i, j int) bool {
			for s := range n {
				if must[int](t)(auto.Run(a, s, must[string](t)(m.Word(i)))) > must[int](t)(auto.Run(a, s, must[string](t)(m.Word(j)))) {
					return false
				}
			}
			return true
		}
		for i := range m.Len() {
			for j := range m.Len() {
				is, should, back := must[bool](t)(order.Leq(m, i, j)), below(i, j), below(j, i)
				if is != should {
					t.Fatalf("%s: Leq(%d, %d) is %v", brief(a), i, j, is)
				}
				if should && !back {
					oneWay++
				} else if !should && !back {
					neither++
				}
			}
		}
	}
	if oneWay < 2000 || neither < 500 {
		t.Errorf("%d are in order one way alone, %d neither way", oneWay, neither)
	}
}

// TestP18_2P18_3LettersMet: of the words in which all letters stand, a word is the better the more letters it has; of the others it is the other way round.
func TestP18_2P18_3LettersMet(t *testing.T) {
	for k := 1; k <= 6; k++ {
		m, other := built(t, seen(k)), built(t, not(seen(k)))
		for i := range m.Len() {
			for j := range m.Len() {
				less := inside(must[string](t)(m.Word(i)), must[string](t)(m.Word(j)))
				if is := must[bool](t)(order.Leq(m, i, j)); is != less {
					t.Fatalf("%d letters: Leq(%d, %d) is %v", k, i, j, is)
				}
				if is := must[bool](t)(order.Leq(other, j, i)); is != less {
					t.Fatalf("%d letters, not: Leq(%d, %d) is %v", k, j, i, is)
				}
			}
		}
		listed(t, "Up of the zero", up(t, m, m.Len()-1), m.Len()-1)
		listed(t, "Up of the identity", up(t, m, 0), numbers(m.Len())...)
	}
	// a, b, c of four letters, and b, c, d: what lacks a tells.
	m := built(t, seen(4))
	i, j := must[int](t)(m.Element("abc")), must[int](t)(m.Element("bcd"))
	relates(t, m, i, j, context{"", "d", true}, context{"", "a", true})
	relates(t, m, j, i, context{"", "a", true}, context{"", "a", true})
	relates(t, m, 0, m.Len()-1, context{}, context{"", "", true})
	relates(t, m, m.Len()-1, 0, context{"", "", true}, context{"", "", true})
}

// inside: is each letter of v one of w?
func inside(v, w string) bool {
	for _, sign := range v {
		if !strings.ContainsRune(w, sign) {
			return false
		}
	}
	return true
}

// TestP18_2GroupsAreInNoOrder: where each word has one that leads back, only the same are in order.
func TestP18_2GroupsAreInNoOrder(t *testing.T) {
	for _, a := range []api.Auto{atFirst(turns(4)), turns(4), turns(5), mirrored(6), part{0, 0, 12}.auto(1), together(mirrored(4), mirrored(4)), beside(2, part{0, 0, 6}, part{1, 0, 5})} {
		m := built(t, a)
		for i := range m.Len() {
			for _, j := range up(t, m, i) {
				if !must[bool](t)(order.Same(m, i, j)) {
					t.Fatalf("%s: of a group %d and %d are in order", brief(a), i, j)
				}
			}
		}
	}
}

// TestP18_2P18_3StatesThatAreNotMet: what they do tells nothing of elements; they have sets all the same.
func TestP18_2P18_3StatesThatAreNotMet(t *testing.T) {
	m := built(t, joined(still(2, 1), pairs()))
	if m.Len() != 6 {
		t.Fatalf("%d elements", m.Len())
	}
	allAreSame(t, "one state is met", m)
	for s, should := range [][]int{{0}, {0, 1}, {0, 2}, {0, 1, 2, 3}} {
		listed(t, "the set of a state", bits.List(must[[]api.Set](t)(order.States(m))[s]), should...)
	}
	// The ring of two is met: of the 512 elements the even ones are the same, and the odd ones.
	m = built(t, beside(8, part{0, 0, 2}, part{1, 0, 2}, part{2, 0, 2}, part{3, 0, 2}, part{4, 0, 2}, part{5, 0, 2}, part{6, 0, 2}, part{7, 0, 4}))
	if m.Len() != 512 {
		t.Fatalf("%d elements", m.Len())
	}
	for i, least := range must[[]int](t)(order.Classes(m)) {
		if should := strings.Count(must[string](t)(m.Word(i)), "a") % 2; least != should {
			t.Fatalf("of %d the class is %d", i, least)
		}
	}
	relates(t, m, 0, 1, context{"", "", true}, context{"", "", true})
	relates(t, m, 1, 0, context{"", "a", true}, context{"", "", true})
	relates(t, m, 2, 511, context{"", "", true}, context{"", "", true})
}

// TestP18_2P18_3MaxElems: the greatest monoids, one of whose automata is minimal.
func TestP18_2P18_3MaxElems(t *testing.T) {
	a := atFirst(together(together(mirrored(4), mirrored(4)), mirrored(4)))
	if minimal, _, _ := minim.Minimal(a); len(minimal.Accept) != 64 {
		t.Fatalf("%d states are unlike", len(minimal.Accept))
	}
	m := built(t, a)
	if m.Len() != api.MaxElems {
		t.Fatalf("%d elements", m.Len())
	}
	listed(t, "Classes", must[[]int](t)(order.Classes(m)), numbers(512)...)
	listed(t, "Up(511)", up(t, m, 511), 511)
	for s, set := range must[[]api.Set](t)(order.States(m)) {
		listed(t, "the set of a state", bits.List(set), s)
	}
	// 512 powers, of which the ring of seven behind a way of eight is met: a^7 is to be told from a^14 by nothing, and all from there on are the same if they are some sevens apart.
	m = built(t, powers(8))
	if m.Len() != api.MaxElems {
		t.Fatalf("%d elements", m.Len())
	}
	minimal, _, e := minim.Minimal(m.Auto())
	if n := len(minimal.Accept); e != api.OK || n != 14 {
		t.Fatalf("%d states are unlike, %d", n, e)
	}
	for i, least := range must[[]int](t)(order.Classes(m)) {
		should := i
		if i >= 14 {
			should = 7 + i%7
		}
		if least != should {
			t.Fatalf("of %d the class is %d", i, least)
		}
	}
	relates(t, m, 511, 7, context{"", "", false}, context{"", "", false})
}
