package order_test

import (
	"slices"
	"testing"

	"eggbox/api"
	"eggbox/auto"
	"eggbox/bits"
	"eggbox/monoid"
	"eggbox/order"
)

// context is an answer of Context or Apart.
type context struct {
	u, v  string
	found bool
}

func contextOf(t *testing.T, m *monoid.Monoid, i, j int) context {
	t.Helper()
	u, v, found, e := order.Context(m, i, j)
	if e != api.OK {
		t.Fatalf("Context(%d, %d): error %d", i, j, e)
	}
	return context{u, v, found}
}

func apartOf(t *testing.T, m *monoid.Monoid, i, j int) context {
	t.Helper()
	u, v, found, e := order.Apart(m, i, j)
	if e != api.OK {
		t.Fatalf("Apart(%d, %d): error %d", i, j, e)
	}
	return context{u, v, found}
}

// doors are the contexts of a monoid, each by two elements: behind has, for each element, those that make an accepted word behind it.
type doors struct {
	words    []string
	products [][]int
	behind   []api.Set
}

func doorsOf(t *testing.T, m *monoid.Monoid) *doors {
	t.Helper()
	n := m.Len()
	out := &doors{products: make([][]int, n), behind: make([]api.Set, n)}
	for i := range n {
		out.words = append(out.words, must[string](t)(m.Word(i)))
		for j := range n {
			p := must[int](t)(m.Product(i, j))
			out.products[i] = append(out.products[i], p)
			if must[bool](t)(m.Accept(p)) {
				out.behind[i] = must[api.Set](t)(bits.With(out.behind[i], j))
			}
		}
	}
	return out
}

// let are what may stand behind an element so that it is let in with p ahead of it.
func (d *doors) let(p, i int) api.Set { return d.behind[d.products[p][i]] }

// leq goes through all contexts.
func (d *doors) leq(i, j int) bool {
	for p := range d.words {
		if !bits.Subset(d.let(p, i), d.let(p, j)) {
			return false
		}
	}
	return true
}

func (d *doors) same(i, j int) bool { return d.leq(i, j) && d.leq(j, i) }

// first is the least context that does something, p being gone through first.
func (d *doors) first(does func(p int) api.Set) context {
	for p, u := range d.words {
		if q, found := bits.Next(does(p), 0); found {
			return context{u, d.words[q], true}
		}
	}
	return context{}
}

func (d *doors) context(i, j int) context {
	return d.first(func(p int) api.Set { return bits.Minus(d.let(p, i), d.let(p, j)) })
}

func (d *doors) apart(i, j int) context {
	return d.first(func(p int) api.Set {
		return bits.Union(bits.Minus(d.let(p, i), d.let(p, j)), bits.Minus(d.let(p, j), d.let(p, i)))
	})
}

// twoAreAsDefined holds the calls of two elements.
func twoAreAsDefined(t *testing.T, name string, m *monoid.Monoid, d *doors, i, j int) {
	t.Helper()
	if is, should := must[bool](t)(order.Leq(m, i, j)), d.leq(i, j); is != should {
		t.Fatalf("%s: Leq(%d, %d) is %v", name, i, j, is)
	}
	if is, should := must[bool](t)(order.Same(m, i, j)), d.same(i, j); is != should {
		t.Fatalf("%s: Same(%d, %d) is %v", name, i, j, is)
	}
	if got, should := contextOf(t, m, i, j), d.context(i, j); got != should {
		t.Fatalf("%s: Context(%d, %d) is %v; should be %v", name, i, j, got, should)
	}
	if got, should := apartOf(t, m, i, j), d.apart(i, j); got != should {
		t.Fatalf("%s: Apart(%d, %d) is %v; should be %v", name, i, j, got, should)
	}
}

// oneIsAsDefined holds Up of an element.
func oneIsAsDefined(t *testing.T, name string, m *monoid.Monoid, d *doors, i int) {
	t.Helper()
	should := slices.DeleteFunc(numbers(m.Len()), func(j int) bool { return !d.leq(i, j) })
	if got := bits.List(must[api.Set](t)(order.Up(m, i))); !slices.Equal(got, should) {
		t.Fatalf("%s: Up(%d) is %v; should be %v", name, i, got, should)
	}
}

// classesAreAsDefined holds Classes.
func classesAreAsDefined(t *testing.T, name string, m *monoid.Monoid, d *doors) {
	t.Helper()
	got := must[[]int](t)(order.Classes(m))
	if len(got) != m.Len() {
		t.Fatalf("%s: Classes are %v", name, got)
	}
	for i, least := range got {
		if should := slices.IndexFunc(numbers(i+1), func(j int) bool { return d.same(i, j) }); least != should {
			t.Fatalf("%s: of %d the class is %d; should be %d", name, i, least, should)
		}
	}
}

// TestP18_2P18_3ByContexts: all calls of small monoids, context by context.
func TestP18_2P18_3ByContexts(t *testing.T) {
	visit(t, slices.Concat(smallOnes(), few(t, samples(), 36)), func(name string, m *monoid.Monoid) {
		d := doorsOf(t, m)
		for i := range m.Len() {
			oneIsAsDefined(t, name, m, d, i)
			for j := range m.Len() {
				twoAreAsDefined(t, name, m, d, i, j)
			}
		}
		classesAreAsDefined(t, name, m, d)
	})
}

// TestP18_2P18_3ByContextsInGreatOnes: some elements of each, those of one class and of like words among them.
func TestP18_2P18_3ByContextsInGreatOnes(t *testing.T) {
	visit(t, samples(), func(name string, m *monoid.Monoid) {
		n := m.Len()
		if n <= 36 {
			return
		}
		d := doorsOf(t, m)
		classesAreAsDefined(t, name, m, d)
		dice := dice(n)
		for range 3 {
			oneIsAsDefined(t, name, m, d, dice.below(n))
		}
		oneIsAsDefined(t, name, m, d, 0)
		oneIsAsDefined(t, name, m, d, n-1)
		classes := must[[]int](t)(order.Classes(m))
		for range 15 {
			i, j := dice.below(n), dice.below(n)
			twoAreAsDefined(t, name, m, d, i, j)
			twoAreAsDefined(t, name, m, d, i, classes[i])
			up := bits.List(must[api.Set](t)(order.Up(m, i)))
			twoAreAsDefined(t, name, m, d, i, up[dice.below(len(up))])
		}
	})
}

// TestP18_1ByWords: a state's set has just the states from which each word is accepted that is accepted from it; of words that do the same the least one is run.
func TestP18_1ByWords(t *testing.T) {
	visit(t, lawful(), func(name string, m *monoid.Monoid) {
		a := m.Auto()
		got := must[[]api.Set](t)(order.States(m))
		should := make([]api.Set, len(a.Accept))
		for s := range should {
			should[s] = must[api.Set](t)(bits.Below(len(should)))
		}
		for i := range m.Len() {
			w := must[string](t)(m.Word(i))
			var from api.Set
			for s := range should {
				if a.Accept[must[int](t)(auto.Run(a, s, w))] {
					from = must[api.Set](t)(bits.With(from, s))
				}
			}
			for _, s := range bits.List(from) {
				should[s] = bits.Inter(should[s], from)
			}
		}
		if !slices.Equal(got, should) {
			t.Fatalf("%s: States are %v; should be %v", name, lists(got), lists(should))
		}
	})
}

// lists are the numbers of sets.
func lists(all []api.Set) [][]int {
	var out [][]int
	for _, s := range all {
		out = append(out, bits.List(s))
	}
	return out
}

// upTo are all words over k letters of at most n letters.
func upTo(k, n int) []string {
	out := []string{""}
	for from := 0; n > 0; n-- {
		for _, w := range out[from:] {
			from++
			for l := range k {
				out = append(out, w+string(rune('a'+l)))
			}
		}
	}
	return out
}

// TestP18_2P18_3ByWords: contexts of words, and not the least words of elements alone, let just those in; of two words of one element both or none.
func TestP18_2P18_3ByWords(t *testing.T) {
	met := map[bool]int{}
	visit(t, slices.Concat(everyAuto(2, 2, true), few(t, samples(), 11)), func(name string, m *monoid.Monoid) {
		a := m.Auto()
		words := upTo(m.Letters(), max(2, 5-m.Letters()))
		if m.Letters() > 4 {
			words = upTo(m.Letters(), 1)
		}
		for i := range m.Len() {
			words = append(words, must[string](t)(m.Word(i)))
		}
		element := func(w string) int { return must[int](t)(m.Element(w)) }
		dice := dice(5)
		for range 12 {
			s, z := words[dice.below(len(words))], words[dice.below(len(words))]
			leq := must[bool](t)(order.Leq(m, element(s), element(z)))
			same := must[bool](t)(order.Same(m, element(s), element(z)))
			escapes, unlike := false, false
			for _, u := range words {
				for _, v := range words {
					one, other := must[bool](t)(auto.Accepts(a, u+s+v)), must[bool](t)(auto.Accepts(a, u+z+v))
					escapes = escapes || one && !other
					unlike = unlike || one != other
				}
			}
			met[escapes]++
			if leq == escapes || same == unlike {
				t.Fatalf("%s: of %q and %q Leq is %v, Same %v", name, s, z, leq, same)
			}
		}
	})
	if met[true] < 300 || met[false] < 300 {
		t.Errorf("so many words have a context that the others have not: %v", met)
	}
}
