package order_test

import (
	"slices"
	"testing"

	"eggbox/api"
	"eggbox/auto"
	"eggbox/bits"
	"eggbox/minim"
	"eggbox/monoid"
	"eggbox/order"
)

// upsOf are all elements' Ups.
func upsOf(t *testing.T, m *monoid.Monoid) []api.Set {
	t.Helper()
	var out []api.Set
	for i := range m.Len() {
		out = append(out, must[api.Set](t)(order.Up(m, i)))
	}
	return out
}

// some are all pairs of elements, or that many of them: such as are in order are among them.
func some(t *testing.T, m *monoid.Monoid, most int) [][2]int {
	t.Helper()
	var out [][2]int
	n := m.Len()
	if n*n <= most {
		for i := range n {
			for j := range n {
				out = append(out, [2]int{i, j})
			}
		}
		return out
	}
	classes := must[[]int](t)(order.Classes(m))
	for d := dice(n + 1); len(out) < most; {
		i, j := d.below(n), d.below(n)
		out = append(out, [2]int{i, j}, [2]int{i, classes[i]}, [2]int{j, j})
		above := bits.List(must[api.Set](t)(order.Up(m, i)))
		j = above[d.below(len(above))]
		out = append(out, [2]int{i, j}, [2]int{j, i})
	}
	return out
}

// metOf are the states that are met from 0.
func metOf(a api.Auto) []int {
	out := []int{0}
	for at := 0; at < len(out); at++ {
		for _, s := range a.Next[out[at]*a.Letters : (out[at]+1)*a.Letters] {
			if !slices.Contains(out, s) {
				out = append(out, s)
			}
		}
	}
	return out
}

// TestP18_4ByStates: Leq says of elements what States says of where they lead from the states that are met; what they do to the others may be in no order.
func TestP18_4ByStates(t *testing.T) {
	met := map[bool]int{}
	besides := 0
	visit(t, lawful(), func(name string, m *monoid.Monoid) {
		a := m.Auto()
		states := must[[]api.Set](t)(order.States(m))
		are := metOf(a)
		leads := make([][]int, m.Len())
		for i := range leads {
			w := must[string](t)(m.Word(i))
			for s := range a.Accept {
				leads[i] = append(leads[i], must[int](t)(auto.Run(a, s, w)))
			}
		}
		for _, p := range some(t, m, 120) {
			i, j := p[0], p[1]
			escapes := func(s int) bool { return !bits.Has(states[leads[i][s]], leads[j][s]) }
			is, should := must[bool](t)(order.Leq(m, i, j)), !slices.ContainsFunc(are, escapes)
			if is != should {
				t.Fatalf("%s: Leq(%d, %d) is %v", name, i, j, is)
			}
			met[is]++
			if is && slices.ContainsFunc(numbers(len(states)), escapes) {
				besides++
			}
		}
	})
	if met[true] < 20000 || met[false] < 20000 || besides < 1000 {
		t.Errorf("so many are in order: %v; %d of them not by states that are not met", met, besides)
	}
}

// TestP18_5AnOrder: each is below itself, what is above one above is above, and both ways are just those that are Same, which have one class.
func TestP18_5AnOrder(t *testing.T) {
	met := map[string]int{}
	visit(t, lawful(), func(name string, m *monoid.Monoid) {
		ups, classes := upsOf(t, m), must[[]int](t)(order.Classes(m))
		for i, up := range ups {
			if !bits.Has(up, i) {
				t.Fatalf("%s: %d is not in Up of it", name, i)
			}
			for _, j := range bits.List(up) {
				if !bits.Subset(ups[j], up) {
					t.Fatalf("%s: %d is above %d; %v above it, %v above that", name, j, i, bits.List(up), bits.List(ups[j]))
				}
			}
			for j := range ups {
				if both := bits.Has(up, j) && bits.Has(ups[j], i); both != (classes[i] == classes[j]) {
					t.Fatalf("%s: %d and %d are both ways: %v; of the classes %d, %d", name, i, j, both, classes[i], classes[j])
				}
			}
		}
		for _, p := range some(t, m, 90) {
			i, j := p[0], p[1]
			one, back := bits.Has(ups[i], j), bits.Has(ups[j], i)
			if is := must[bool](t)(order.Leq(m, i, j)); is != one {
				t.Fatalf("%s: Leq(%d, %d) is %v", name, i, j, is)
			}
			if is := must[bool](t)(order.Same(m, i, j)); is != (one && back) || is != must[bool](t)(order.Same(m, j, i)) {
				t.Fatalf("%s: Same(%d, %d) is %v", name, i, j, is)
			}
			switch {
			case one && back && i != j:
				met["same"]++
			case one != back:
				met["one way"]++
			case !one:
				met["neither way"]++
			}
		}
	})
	if len(met) != 3 || met["same"] < 10000 || met["one way"] < 10000 || met["neither way"] < 10000 {
		t.Errorf("so many are in order: %v", met)
	}
}

// TestP18_5ProductsKeepTheOrder: with any element ahead or behind; in great monoids with each letter, of which all elements are products, and some more.
func TestP18_5ProductsKeepTheOrder(t *testing.T) {
	met := 0
	visit(t, lawful(), func(name string, m *monoid.Monoid) {
		ups := upsOf(t, m)
		with := numbers(m.Len())
		if len(with) > 40 {
			with = append(with[:1+m.Letters()], m.Len()-1, m.Len()/2)
		}
		for i, up := range ups {
			for _, j := range bits.List(up) {
				if i == j || m.Len() > 150 && (i+j)%3 > 0 {
					continue
				}
				met++
				for _, x := range with {
					if p, q := must[int](t)(m.Product(x, i)), must[int](t)(m.Product(x, j)); !bits.Has(ups[p], q) {
						t.Fatalf("%s: %d is at most %d; with %d ahead it is not so", name, i, j, x)
					}
					if p, q := must[int](t)(m.Product(i, x)), must[int](t)(m.Product(j, x)); !bits.Has(ups[p], q) {
						t.Fatalf("%s: %d is at most %d; with %d behind it is not so", name, i, j, x)
					}
				}
			}
		}
	})
	if met < 100000 {
		t.Errorf("%d are in order", met)
	}
}

func TestP18_6Upwards(t *testing.T) {
	met := map[bool]int{}
	visit(t, lawful(), func(name string, m *monoid.Monoid) {
		for i := range m.Len() {
			if m.Len() > 200 && i%4 > 0 {
				continue
			}
			accepted := must[bool](t)(m.Accept(i))
			for _, j := range up(t, m, i) {
				other := must[bool](t)(m.Accept(j))
				if accepted && !other {
					t.Fatalf("%s: %d is accepted, %d above it is not", name, i, j)
				}
				if i != j {
					met[other != accepted]++
				}
			}
		}
	})
	if met[true] < 1000 || met[false] < 10000 {
		t.Errorf("so many become accepted: %v", met)
	}
}

// TestP18_7TheSyntacticMonoid: what is Same is one element of the minimal automaton's monoid; if the automaton is minimal itself, that is no other one.
func TestP18_7TheSyntacticMonoid(t *testing.T) {
	met := map[bool]int{}
	visit(t, lawful(), func(name string, m *monoid.Monoid) {
		a, _, e := minim.Minimal(m.Auto())
		if e != api.OK {
			t.Fatalf("%s: Minimal: %d", name, e)
		}
		minimal := must[bool](t)(minim.Is(m.Auto()))
		met[minimal]++
		least := built(t, a)
		classes := must[[]int](t)(order.Classes(m))
		firsts := map[int]int{} // by element of the minimal automaton's monoid
		for i, class := range classes {
			to := must[int](t)(least.Element(must[string](t)(m.Word(i))))
			first, is := firsts[to]
			if !is {
				first, firsts[to] = i, i
			}
			if class != first || minimal && class != i {
				t.Fatalf("%s: of %d the class is %d; of one element are %d and %d", name, i, class, first, i)
			}
		}
		if len(firsts) != least.Len() {
			t.Fatalf("%s: %d classes; the minimal automaton's monoid has %d", name, len(firsts), least.Len())
		}
		for _, p := range some(t, m, 60) {
			if is := must[bool](t)(order.Same(m, p[0], p[1])); is != (classes[p[0]] == classes[p[1]]) || minimal && is != (p[0] == p[1]) {
				t.Fatalf("%s: Same(%d, %d) is %v", name, p[0], p[1], is)
			}
		}
		// The order is the language's, too: it is the same in both monoids.
		for _, p := range some(t, m, 60) {
			i, j := must[int](t)(least.Element(must[string](t)(m.Word(p[0])))), must[int](t)(least.Element(must[string](t)(m.Word(p[1]))))
			if is := must[bool](t)(order.Leq(m, p[0], p[1])); is != must[bool](t)(order.Leq(least, i, j)) {
				t.Fatalf("%s: Leq(%d, %d) is %v", name, p[0], p[1], is)
			}
		}
	})
	if met[true] < 150 || met[false] < 1000 {
		t.Errorf("so many are minimal: %v", met)
	}
}

// TestP18_7MinimalOnes: automata whose states have unlike languages, from 2 to 512 elements: each is Same as itself alone.
func TestP18_7MinimalOnes(t *testing.T) {
	visit(t, minimalOnes(), func(name string, m *monoid.Monoid) {
		a, _, _ := minim.Minimal(m.Auto())
		if len(a.Accept) != len(m.Auto().Accept) {
			t.Fatalf("%s: of %d states only %d are unlike", name, len(m.Auto().Accept), len(a.Accept))
		}
		listed(t, name+": Classes", must[[]int](t)(order.Classes(m)), numbers(m.Len())...)
	})
}

// TestP18_8WhatShowsIt: Context and Apart find just where they have to, and what they find lets the one in and not the other one.
func TestP18_8WhatShowsIt(t *testing.T) {
	met := map[string]int{}
	visit(t, lawful(), func(name string, m *monoid.Monoid) {
		a := m.Auto()
		for _, p := range some(t, m, 60) {
			i, j := p[0], p[1]
			s, z := must[string](t)(m.Word(i)), must[string](t)(m.Word(j))
			lets := func(c context, w string) bool { return must[bool](t)(auto.Accepts(a, c.u+w+c.v)) }
			c, d := contextOf(t, m, i, j), apartOf(t, m, i, j)
			if c.found == must[bool](t)(order.Leq(m, i, j)) || c.found && (!lets(c, s) || lets(c, z)) || !c.found && c != (context{}) {
				t.Fatalf("%s: Context(%d, %d) is %v", name, i, j, c)
			}
			if d.found == must[bool](t)(order.Same(m, i, j)) || d.found && lets(d, s) == lets(d, z) || !d.found && d != (context{}) {
				t.Fatalf("%s: Apart(%d, %d) is %v", name, i, j, d)
			}
			if d != apartOf(t, m, j, i) {
				t.Fatalf("%s: Apart(%d, %d) is %v, Apart(%d, %d) is not", name, i, j, d, j, i)
			}
			switch back := contextOf(t, m, j, i); {
			case d != c && d != back:
				t.Fatalf("%s: Apart(%d, %d) is %v; Context %v, turned round %v", name, i, j, d, c, back)
			case c.found && c != d:
				met["another context"]++
			case c.found:
				met["one context"]++
			}
			for _, w := range []string{c.u, c.v, d.u, d.v} {
				if least := must[int](t)(m.Element(w)); must[string](t)(m.Word(least)) != w {
					t.Fatalf("%s: Context(%d, %d) is %v, Apart %v: %q is no least word", name, i, j, c, d, w)
				}
			}
			if c.u != "" {
				met["something ahead"]++
			}
			if c.u != "" && c.v != "" {
				met["something on both sides"]++
			}
		}
	})
	if len(met) != 4 || met["another context"] < 5000 || met["one context"] < 5000 || met["something on both sides"] < 1500 {
		t.Errorf("so many contexts are found: %v", met)
	}
}

// TestP18_2WhatIsNotAcceptedInstead: the order of what a language leaves out goes the other way.
func TestP18_2WhatIsNotAcceptedInstead(t *testing.T) {
	visit(t, samples(), func(name string, m *monoid.Monoid) {
		other := built(t, not(m.Auto()))
		if !slices.Equal(must[[]int](t)(order.Classes(m)), must[[]int](t)(order.Classes(other))) {
			t.Fatalf("%s: Classes are others if the other words are accepted", name)
		}
		for _, p := range some(t, m, 100) {
			if must[bool](t)(order.Leq(m, p[0], p[1])) != must[bool](t)(order.Leq(other, p[1], p[0])) {
				t.Fatalf("%s: Leq(%d, %d) is not turned round", name, p[0], p[1])
			}
			if apartOf(t, m, p[0], p[1]) != apartOf(t, other, p[0], p[1]) {
				t.Fatalf("%s: Apart(%d, %d) is another one if the other words are accepted", name, p[0], p[1])
			}
		}
	})
}
