package minim_test

import (
	"slices"
	"strconv"
	"testing"

	"eggbox/api"
	"eggbox/auto"
	"eggbox/minim"
)

// TestP10_5MyhillNerode: two words lead to one state just if, whatever is put behind both, both or none are accepted; and there are as many states as classes of words. Of n states, n - 1 letters lead everywhere and tell everything.
func TestP10_5MyhillNerode(t *testing.T) {
	for _, a := range small() {
		m, _, e := minim.Minimal(a)
		if e != api.OK {
			t.Fatalf("Minimal of %s: %d", brief(a), e)
		}
		all := words(a.Letters, len(a.Accept)-1)
		states := map[string]int{}
		rows := map[int]string{}
		for _, u := range all {
			var behind []string
			for _, x := range all {
				behind = append(behind, u+x)
			}
			row, to := said(a, 0, behind), leads(m, 0, u)
			if s, known := states[row]; known && s != to {
				t.Errorf("%s: %q leads to %d, a word of the same class to %d", brief(a), u, to, s)
			}
			if r, known := rows[to]; known && r != row {
				t.Errorf("%s: %q leads to %d, as does a word of another class", brief(a), u, to)
			}
			states[row], rows[to] = to, row
		}
		if len(states) != len(m.Accept) {
			t.Errorf("%s: %d classes of words, %d states", brief(a), len(states), len(m.Accept))
		}
	}
}

// TestP10_5NoneHasFewer: of all small automata of one language the fewest states are the minimal automaton's, which is the same value for all of them. Two automata of three states that are unlike are so by a word of at most four letters, of four states by one of six.
func TestP10_5NoneHasFewer(t *testing.T) {
	type group struct {
		fewest  int
		minimal api.Auto
	}
	groups := map[string]group{}
	for _, a := range small() {
		language := strconv.Itoa(a.Letters) + said(a, 0, words(a.Letters, map[int]int{1: 6, 2: 4, 3: 2}[a.Letters]))
		m, _, _ := minim.Minimal(a)
		g, known := groups[language]
		if !known {
			g = group{len(a.Accept), m}
		}
		if !same(g.minimal, m) {
			t.Fatalf("%s and %s are minimal, and of one language", brief(g.minimal), brief(m))
		}
		g.fewest = min(g.fewest, len(a.Accept))
		groups[language] = g
	}
	for _, g := range groups {
		if g.fewest != len(g.minimal.Accept) {
			t.Errorf("%s: one with %d states has its language", brief(g.minimal), g.fewest)
		}
	}
	if len(groups) < 500 {
		t.Errorf("only %d languages", len(groups))
	}
}

// twiceReversed is Reverse of Reverse, if there are not too many states for that.
func twiceReversed(a api.Auto) (api.Auto, bool) {
	once, e := auto.Reverse(a)
	if e != api.OK {
		return api.Auto{}, false
	}
	out, e := auto.Reverse(once)
	return out, e == api.OK
}

func TestP10_7Brzozowski(t *testing.T) {
	d := dice(1963)
	all := samples()
	for range 100 {
		all = append(all, d.thrown(1, 1+d.below(60), 3), d.thrown(2+d.below(7), 1+d.below(9), 3))
	}
	held := 0
	for _, a := range all {
		should, fits := twiceReversed(a)
		if !fits {
			continue
		}
		held++
		got, _, e := minim.Minimal(a)
		if e != api.OK || !same(got, should) {
			t.Errorf("Minimal of %s is %s, %d; Reverse of Reverse is %s", brief(a), brief(got), e, brief(should))
		}
	}
	if held < len(all)-100 {
		t.Errorf("only %d of %d fit", held, len(all))
	}
}

func TestP10_8Once(t *testing.T) {
	for _, a := range samples() {
		m, _, _ := minim.Minimal(a)
		again, to, e := minim.Minimal(m)
		gives(t, "Minimal of Minimal of "+brief(a), again, to, e, m, numbers(len(m.Accept)))
		if is, e := minim.Is(m); !is || e != api.OK {
			t.Errorf("Is of Minimal of %s is %v, %d", brief(a), is, e)
		}
		classes, e := minim.Classes(m)
		lists(t, "Classes of Minimal of "+brief(a), classes, e, numbers(len(m.Accept)))
		met, e := auto.Reach(m)
		if e != api.OK || !same(met, m) {
			t.Errorf("Minimal of %s is %s, which is not in order", brief(a), brief(m))
		}
	}
}

func TestP10_8Not(t *testing.T) {
	for _, a := range samples() {
		m, to, _ := minim.Minimal(a)
		not, _ := auto.Not(a)
		got, _, e := minim.Minimal(not)
		should := api.Auto{Letters: m.Letters, Next: m.Next, Accept: turned(m.Accept)}
		if e != api.OK || !same(got, should) {
			t.Errorf("Minimal of Not of %s is %s, %d; should be %s", brief(a), brief(got), e, brief(should))
		}
		// With all states of a the numbers are the same, too.
		all := clone(a)
		all.Accept = turned(all.Accept)
		got, turnedTo, e := minim.Minimal(all)
		gives(t, "Minimal of "+brief(all), got, turnedTo, e, should, slices.Clone(to))
	}
}
