package monoid_test

import (
	"slices"
	"strings"
	"testing"

	"eggbox/api"
	"eggbox/minim"
	"eggbox/monoid"
	"eggbox/trans"
	"eggbox/word"
)

// lawful are monoids of all kinds and sizes, by names.
func lawful(t *testing.T, visit func(name string, a api.Auto, m *monoid.Monoid)) {
	t.Helper()
	for _, s := range samples() {
		visit(s.name, s.a, built(t, s.a))
	}
	for _, a := range smallOnes() {
		visit(brief(a), a, built(t, a))
	}
}

// someOf are elements: all of them, where there are few, else the first ones, the last one and some others.
func (d *dice) someOf(n int) []int {
	var out []int
	for i := range n {
		if n <= 8 || i < 2 || i == n-1 {
			out = append(out, i)
		}
	}
	for range 6 {
		if n > 8 {
			out = append(out, d.below(n))
		}
	}
	return out
}

func TestP14_6Associates(t *testing.T) {
	d := dice(146)
	lawful(t, func(name string, a api.Auto, m *monoid.Monoid) {
		product := func(i, j int) int { return must[int](t)(m.Product(i, j)) }
		some := d.someOf(m.Len())
		for _, i := range some {
			for _, j := range some {
				for _, h := range some {
					if product(product(i, j), h) != product(i, product(j, h)) {
						t.Fatalf("%s: %d, %d, %d: Product does not associate", name, i, j, h)
					}
				}
			}
		}
		for i := range m.Len() {
			if product(0, i) != i || product(i, 0) != i {
				t.Fatalf("%s: 0 changes %d", name, i)
			}
		}
	})
}

func TestP14_6ElementsOfWords(t *testing.T) {
	d := dice(1460)
	lawful(t, func(name string, a api.Auto, m *monoid.Monoid) {
		element := func(w string) int { return must[int](t)(m.Element(w)) }
		words := d.words(a.Letters)
		if element("") != 0 {
			t.Fatalf("%s: the empty word's element is %d", name, element(""))
		}
		for i, u := range words {
			v := words[d.below(len(words))]
			if element(u+v) != must[int](t)(m.Product(element(u), element(v))) {
				t.Fatalf("%s: %q and %q: the element of both is not the product", name, u, v)
			}
			if n := i % 7; element(strings.Repeat(u, n)) != must[int](t)(m.Power(element(u), uint64(n))) {
				t.Fatalf("%s: %q, %d times: the element is not the power", name, u, n)
			}
		}
	})
}

func TestP14_6Letters(t *testing.T) {
	lawful(t, func(name string, a api.Auto, m *monoid.Monoid) {
		for l := range a.Letters {
			sign := byte('a' + l)
			one := must[int](t)(m.Element(string(rune(sign))))
			for i := range m.Len() {
				if must[int](t)(m.Right(i, sign)) != must[int](t)(m.Product(i, one)) || must[int](t)(m.Left(i, sign)) != must[int](t)(m.Product(one, i)) {
					t.Fatalf("%s: %d and the letter %c: Right and Left are not the products", name, i, sign)
				}
			}
		}
	})
}

func TestP14_7WordsRise(t *testing.T) {
	lawful(t, func(name string, a api.Auto, m *monoid.Monoid) {
		before := ""
		for i := range m.Len() {
			w := must[string](t)(m.Word(i))
			if must[int](t)(m.Element(w)) != i {
				t.Fatalf("%s: the element of Word(%d), %q, is another one", name, i, w)
			}
			if c, e := word.Compare(a.Letters, before, w); e != api.OK || (c != -1 && i > 0) {
				t.Fatalf("%s: Word(%d), %q, does not stand behind %q", name, i, w, before)
			}
			before = w
		}
	})
}

// TestP14_7NoneAhead: each word ahead of the last least word, in order, has no element whose least word comes later.
func TestP14_7NoneAhead(t *testing.T) {
	lawful(t, func(name string, a api.Auto, m *monoid.Monoid) {
		met, w := 0, ""
		for range 3000 {
			i := must[int](t)(m.Element(w))
			if i > met || (i == met && must[string](t)(m.Word(i)) != w) {
				t.Fatalf("%s: %q has the element %d, which is Word(%d)'s", name, w, i, i)
			}
			if i == met {
				met++
			}
			if met == m.Len() {
				return
			}
			w = must[string](t)(word.Next(a.Letters, w))
		}
	})
}

func TestP14_7PiecesOfLeastWords(t *testing.T) {
	d := dice(147)
	lawful(t, func(name string, a api.Auto, m *monoid.Monoid) {
		isLeast := func(w string) bool { return must[string](t)(m.Word(must[int](t)(m.Element(w)))) == w }
		for i := range m.Len() {
			w := must[string](t)(m.Word(i))
			for first := range len(w) + 1 {
				end := first + d.below(len(w)-first+1)
				if !isLeast(w[first:end]) || !isLeast(w[first:]) || !isLeast(w[:end]) {
					t.Fatalf("%s: a piece of Word(%d), %q, is no least word", name, i, w)
				}
			}
		}
	})
}

// places are all places of a word at which a rule's left side stands, each with the rule.
func places(w string, left []string) [][2]int {
	var out [][2]int
	for rule, l := range left {
		for at := 0; at+len(l) <= len(w); at++ {
			if w[at:at+len(l)] == l {
				out = append(out, [2]int{at, rule})
			}
		}
	}
	return out
}

// rewritten puts right sides in for left ones, at the places that choose takes, until there is none; false, if that takes too long.
func rewritten(w string, left, right []string, choose func(n int) int) (string, bool) {
	for range 5000 {
		all := places(w, left)
		if len(all) == 0 {
			return w, true
		}
		p := all[choose(len(all))]
		w = w[:p[0]] + right[p[1]] + w[p[0]+len(left[p[1]]):]
	}
	return w, false
}

func TestP14_8Rewriting(t *testing.T) {
	d := dice(148)
	lawful(t, func(name string, a api.Auto, m *monoid.Monoid) {
		left, right := m.Rules()
		words := d.words(a.Letters)
		if m.Len() > 100 {
			words = words[:9]
		}
		for _, w := range words {
			should := must[string](t)(m.Word(must[int](t)(m.Element(w))))
			for _, choose := range []func(n int) int{d.below, func(n int) int { return 0 }, func(n int) int { return n - 1 }} {
				if got, ends := rewritten(w, left, right, choose); got != should || !ends {
					t.Fatalf("%s: %q becomes %q by the rules, should be %q", name, w, got, should)
				}
			}
		}
	})
}

// TestP14_8LongPowers: a rule whose left side is longer than short words are.
func TestP14_8LongPowers(t *testing.T) {
	m := built(t, powers(8))
	left, right := m.Rules()
	for _, n := range []int{7, 8, 511, 512, 513, 1015, 1016, 3000} {
		w := strings.Repeat("a", n)
		should := must[string](t)(m.Word(must[int](t)(m.Element(w))))
		if got, ends := rewritten(w, left, right, func(n int) int { return n / 2 }); got != should || !ends {
			t.Errorf("%d letters become %d, should be %d", n, len(got), len(should))
		}
	}
}

func TestP14_8RightSidesAreAhead(t *testing.T) {
	lawful(t, func(name string, a api.Auto, m *monoid.Monoid) {
		left, right := m.Rules()
		if len(left) != len(right) {
			t.Fatalf("%s: %d left and %d right sides", name, len(left), len(right))
		}
		for i := range left {
			if c, e := word.Compare(a.Letters, right[i], left[i]); c != -1 || e != api.OK {
				t.Fatalf("%s: %q is not ahead of %q", name, right[i], left[i])
			}
			if must[int](t)(m.Element(left[i])) != must[int](t)(m.Element(right[i])) {
				t.Fatalf("%s: %q and %q have unlike elements", name, left[i], right[i])
			}
		}
		if !slices.IsSortedFunc(left, func(u, v string) int { return must[int](t)(word.Compare(a.Letters, u, v)) }) {
			t.Fatalf("%s: the left sides are not in order", name)
		}
	})
}

// TestP14_9WhatIsMade: two words have one element just where they lead alike from each state, met or not.
func TestP14_9WhatIsMade(t *testing.T) {
	d := dice(149)
	met := map[bool]int{}
	lawful(t, func(name string, a api.Auto, m *monoid.Monoid) {
		words := d.words(a.Letters)
		for _, w := range words[:4] {
			words = append(words, must[string](t)(m.Word(must[int](t)(m.Element(w+w)))), w+w)
		}
		for _, u := range words {
			v := words[d.below(len(words))]
			alike := slices.Equal(leads(a, u), leads(a, v))
			met[alike]++
			if (must[int](t)(m.Element(u)) == must[int](t)(m.Element(v))) != alike {
				t.Fatalf("%s: %q and %q lead alike: %v", name, u, v, alike)
			}
		}
	})
	if met[true] < 1000 || met[false] < 1000 {
		t.Errorf("%d lead alike, %d do not", met[true], met[false])
	}
}

// parted tells whether a context of these words lets in just one of two words.
func parted(a api.Auto, contexts []string, s, t string) bool {
	for _, u := range contexts {
		for _, v := range contexts {
			if accepts(a, u+s+v) != accepts(a, u+t+v) {
				return true
			}
		}
	}
	return false
}

// minimal is the minimal automaton.
func minimal(t *testing.T, a api.Auto) api.Auto {
	t.Helper()
	out, _, e := minim.Minimal(a)
	if e != api.OK {
		t.Fatalf("Minimal of %s: %d", brief(a), e)
	}
	return out
}

// TestP14_9Contexts: of a minimal automaton of three states a word of at most two letters leads to each state, and one of at most one letter tells two apart.
func TestP14_9Contexts(t *testing.T) {
	met := map[bool]int{}
	for _, a := range smallOnes() {
		a = minimal(t, a)
		m := built(t, a)
		n := len(a.Accept)
		contexts, words := every(a.Letters, min(n, 4-a.Letters/3)), every(a.Letters, min(3, 6/a.Letters))
		for i, u := range words {
			v := words[(i*7+3)%len(words)]
			is := parted(a, contexts, u, v)
			met[is]++
			if (must[int](t)(m.Element(u)) != must[int](t)(m.Element(v))) != is {
				t.Fatalf("%s: %q and %q: a context tells them apart: %v", brief(a), u, v, is)
			}
		}
	}
	if met[true] < 500 || met[false] < 500 {
		t.Errorf("%d are told apart, %d are not", met[true], met[false])
	}
}

// TestP14_9GreatContexts: of minimal automata whose monoids are not too great, with the least words of all elements as contexts.
func TestP14_9GreatContexts(t *testing.T) {
	d := dice(1490)
	for _, s := range samples() {
		a := minimal(t, s.a)
		m := built(t, a)
		if m.Len() > 60 {
			continue
		}
		var contexts []string
		for i := range m.Len() {
			contexts = append(contexts, must[string](t)(m.Word(i)))
		}
		for range 40 {
			u, v := d.word(a.Letters, d.below(6)), d.word(a.Letters, d.below(6))
			if is := parted(a, contexts, u, v); (must[int](t)(m.Element(u)) != must[int](t)(m.Element(v))) != is {
				t.Fatalf("%s: %q and %q: a context tells them apart: %v", s.name, u, v, is)
			}
		}
	}
}

// TestP14_9NotMinimal: of an automaton that isn't minimal elements may be unlike that no context tells apart.
func TestP14_9NotMinimal(t *testing.T) {
	a := beside(1, part{0, 0, 4})
	a.Accept = []bool{true, false, true, false}
	if m := built(t, a); m.Len() != 4 || parted(a, every(1, 9), "", "aa") {
		t.Errorf("four states in a ring, of two languages: Len %d", m.Len())
	}
	if m := built(t, minimal(t, a)); m.Len() != 2 || must[int](t)(m.Element("aa")) != 0 {
		t.Errorf("the minimal automaton of a ring of four: Len %d", m.Len())
	}
	// States that are not met part words, too.
	if m := built(t, joined(still(2, 1), pairs())); must[int](t)(m.Element("ab")) == 0 || m.Len() != 6 {
		t.Errorf("states that are not met: Len %d", m.Len())
	}
}

// closed are all transformations that words make, by putting letters ahead, until there is nothing new.
func closed(a api.Auto) map[string]int {
	first := text(leads(a, ""))
	out := map[string]int{first: 1}
	work := []string{first}
	for len(work) > 0 {
		t := work[len(work)-1]
		work = work[:len(work)-1]
		for l := range a.Letters {
			next := make([]byte, len(t))
			for s := range next {
				next[s] = t[a.Next[s*a.Letters+l]]
			}
			if out[string(next)]++; out[string(next)] == 1 {
				work = append(work, string(next))
			}
		}
	}
	return out
}

func TestP14_10AsMany(t *testing.T) {
	lawful(t, func(name string, a api.Auto, m *monoid.Monoid) {
		all := closed(a)
		if m.Len() != len(all) {
			t.Fatalf("%s: %d elements, %d transformations", name, m.Len(), len(all))
		}
		met := map[api.Trans]int{}
		for i := range m.Len() {
			x := must[api.Trans](t)(m.Trans(i))
			if met[x]++; met[x] > 1 {
				t.Fatalf("%s: Trans(%d) is that of another one, too", name, i)
			}
			if all[text(must[[]int](t)(trans.List(x)))] == 0 {
				t.Fatalf("%s: no word makes Trans(%d)", name, i)
			}
			if x != must[api.Trans](t)(trans.OfWord(a, must[string](t)(m.Word(i)))) {
				t.Fatalf("%s: Trans(%d) is not what its word does", name, i)
			}
		}
	})
}

func TestP14_10Compose(t *testing.T) {
	d := dice(1410)
	lawful(t, func(name string, a api.Auto, m *monoid.Monoid) {
		some := d.someOf(m.Len())
		for _, i := range some {
			for _, j := range some {
				first, second := must[api.Trans](t)(m.Trans(i)), must[api.Trans](t)(m.Trans(j))
				both := must[api.Trans](t)(m.Trans(must[int](t)(m.Product(i, j))))
				if both != must[api.Trans](t)(trans.Compose(first, second)) {
					t.Fatalf("%s: Trans of the product of %d and %d is not Compose", name, i, j)
				}
			}
		}
	})
}
