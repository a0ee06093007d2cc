package norm_test

import (
	"slices"
	"testing"

	"eggbox/api"
	"eggbox/norm"
)

// form is the normal form of a list; the test ends, if it has none.
func form(t *testing.T, l []api.Node) []api.Node {
	t.Helper()
	n, e := norm.Normal(l)
	if e != api.OK {
		t.Fatalf("Normal(%v): %d", brief(l), e)
	}
	return n
}

func TestP505Again(t *testing.T) {
	for _, p := range append(samples(), everyTree(6, none, empty, dot, a)[6]...) {
		n := form(t, p.list())
		want(t, "Normal of Normal", form(t, n), api.OK, n)
		if is, e := norm.Is(n); !is || e != api.OK {
			t.Errorf("Is(%v): %t, %d", brief(n), is, e)
		}
	}
	d := dice(12)
	for nodes := 3990; nodes <= 4000; nodes++ {
		n := form(t, d.thrown(nodes).list())
		want(t, "Normal of Normal", form(t, n), api.OK, n)
	}
}

func TestP505WithItself(t *testing.T) {
	for _, p := range samples() {
		l := p.list()
		n := form(t, l)
		for _, kind := range []int{api.Union, api.Inter} {
			out, e := pairs[kind](l, l)
			want(t, "of a tree with itself", out, e, n)
			out, e = pairs[kind](n, l)
			want(t, "of a tree with its normal form", out, e, n)
		}
		once, _ := norm.Not(l)
		out, e := norm.Not(once)
		want(t, "Not of Not", out, e, n)
	}
}

// lists are those of all expressions.
func lists(ps []plain) [][]api.Node {
	var out [][]api.Node
	for _, p := range ps {
		out = append(out, p.list())
	}
	return out
}

func commutes(t *testing.T, l, m []api.Node) {
	t.Helper()
	for _, kind := range []int{api.Union, api.Inter} {
		one, e1 := pairs[kind](l, m)
		two, e2 := pairs[kind](m, l)
		if e1 != e2 || !slices.Equal(one, two) {
			t.Errorf("kind %d of %v and %v: %v, %d; the other way round %v, %d", kind, brief(l), brief(m), brief(one), e1, brief(two), e2)
		}
	}
}

func TestP505Commutes(t *testing.T) {
	some := lists(slices.Concat(everyTree(3, none, empty, dot, all, a, b)...))
	for _, l := range some {
		for _, m := range some {
			commutes(t, l, m)
		}
	}
	d := dice(1618)
	for nodes := 4; nodes < 300; nodes++ {
		commutes(t, d.thrown(nodes).list(), d.thrown(nodes/2).list())
	}
	commutes(t, row(1000, 3).list(), row(1000, 4).list())
	commutes(t, not(row(1000, 3)).list(), not(row(1000, 4)).list())
}

func associates(t *testing.T, l, m, n []api.Node) {
	t.Helper()
	for kind, call := range pairs {
		first, _ := call(l, m)
		second, _ := call(m, n)
		one, e1 := call(first, n)
		two, e2 := call(l, second)
		if e1 != api.OK || e2 != api.OK || !slices.Equal(one, two) {
			t.Errorf("kind %d of %v, %v and %v: %v, %d; the other way round %v, %d", kind, brief(l), brief(m), brief(n), brief(one), e1, brief(two), e2)
		}
	}
}

func TestP505Associates(t *testing.T) {
	some := lists([]plain{none, empty, dot, all, a, b, star(a), not(a), not(empty), or(a, b), or(b, c), and(a, b), and(c, a), cat(a, b), cat(all, a), cat(a, all), cat(cat(all, b), all), or(cat(all, a), b), star(dot), star(or(a, b))})
	for _, l := range some {
		for _, m := range some {
			for _, n := range some {
				associates(t, l, m, n)
			}
		}
	}
	d := dice(577)
	for nodes := 4; nodes < 400; nodes++ {
		associates(t, d.thrown(nodes).list(), d.thrown(nodes/2+1).list(), d.thrown(nodes/3+1).list())
	}
	associates(t, row(600, 3).list(), row(700, 4).list(), row(600, 5).list())
}

// words are all words over a, b of at most n letters.
func words(n int) []string {
	out := []string{""}
	for at := 0; len(out[at]) < n; at++ {
		out = append(out, out[at]+"a", out[at]+"b")
	}
	return out
}

func TestP506TheSameWords(t *testing.T) {
	asked := words(4)
	ps := append(slices.Concat(everyTree(5, none, empty, dot, a, b)...), slices.Concat(everyTree(3, all, cat(a, all), cat(all, b), or(a, cat(b, a)), star(cat(a, b)), not(a), star(dot), c)...)...)
	d := dice(28)
	for nodes := 6; nodes < 16; nodes++ {
		for range 40 {
			ps = append(ps, d.thrown(nodes))
		}
	}
	for _, p := range ps {
		n := planted(form(t, p.list()))
		for _, w := range asked {
			if n.says(w) != p.says(w) {
				t.Errorf("%v says %q: %t; its normal form %v: %t", p.list(), w, p.says(w), n.list(), n.says(w))
			}
		}
	}
}
