package minim_test

import (
	"math"
	"slices"
	"strconv"
	"strings"
	"testing"

	"eggbox/api"
	"eggbox/auto"
	"eggbox/minim"
)

func TestP10_1OneState(t *testing.T) {
	for k := 1; k <= 8; k++ {
		for _, a := range []api.Auto{whole(k), nothing(k)} {
			got, e := minim.Classes(a)
			lists(t, "Classes of "+brief(a), got, e, []int{0})
			for _, n := range []int{0, 1, 4096, math.MaxInt} {
				got, e := minim.Level(a, n)
				lists(t, "Level "+strconv.Itoa(n)+" of "+brief(a), got, e, []int{0})
			}
			m, to, e := minim.Minimal(a)
			gives(t, "Minimal of "+brief(a), m, to, e, a, []int{0})
			if is, e := minim.Is(a); !is || e != api.OK {
				t.Errorf("Is of %s is %v, %d", brief(a), is, e)
			}
			differs(t, a, 0, 0, "", false)
		}
	}
}

// most are minimal automata of MaxAuto states, and of 1 and 8 letters.
func most() []api.Auto {
	return []api.Auto{lasso(1, 4095, 1, 4095), lasso(8, 4095, 1, 4095), lasso(1, 0, 4096, 4095), lasso(8, 0, 4096, 4095)}
}

// TestP10_1MostStates: a state is told from the next one by a word that leads on to the last one.
func TestP10_1MostStates(t *testing.T) {
	for _, a := range most()[1:3] {
		got, e := minim.Classes(a)
		lists(t, "Classes of "+brief(a), got, e, numbers(4096))
		got, e = minim.Level(a, 4094)
		lists(t, "Level 4094 of "+brief(a), got, e, numbers(4096))
		got, e = minim.Level(a, 4093)
		should := numbers(4096)
		should[1] = 0
		lists(t, "Level 4093 of "+brief(a), got, e, should)
		got, e = minim.Level(a, 100)
		// All that are more than 100 letters away are one class.
		for s := range 4095 - 100 {
			should[s] = 0
		}
		lists(t, "Level 100 of "+brief(a), got, e, should)
	}
	a := backward(most()[0])
	got, e := minim.Level(a, 4093)
	should := numbers(4096)
	should[4095] = 4094
	lists(t, "Level 4093 of a chain that goes down", got, e, should)
}

func TestP10_2MostStates(t *testing.T) {
	for _, a := range most() {
		got, to, e := minim.Minimal(a)
		gives(t, "Minimal of "+brief(a), got, to, e, a, numbers(4096))
	}
	// From its last state on the chain is the same; from 0, which stays and accepts, nothing else is met.
	down := backward(most()[1])
	got, to, e := minim.Minimal(down)
	should := slices.Repeat([]int{-1}, 4096)
	should[0] = 0
	gives(t, "Minimal of a chain that goes down", got, to, e, whole(8), should)
}

func TestP10_2MostOfOneLanguage(t *testing.T) {
	d := dice(4)
	for _, m := range []api.Auto{lasso(1, 100, 900, 999), lasso(8, 0, 300, 299), lasso(2, 2047, 1, 2047), whole(8)} {
		blown, stands := d.blown(m, 4096)
		got, to, e := minim.Minimal(blown)
		gives(t, "Minimal of "+brief(blown), got, to, e, m, stands)
	}
	for _, k := range []int{1, 2, 8} {
		m, _, _ := minim.Minimal(d.thrown(k, 3000, 5))
		blown, stands := d.blown(m, 4096)
		got, to, e := minim.Minimal(blown)
		gives(t, "Minimal of "+brief(blown), got, to, e, m, stands)
	}
}

func TestP10_3MostStates(t *testing.T) {
	for _, a := range most()[1:3] {
		if is, e := minim.Is(a); !is || e != api.OK {
			t.Errorf("Is of %s is %v, %d", brief(a), is, e)
		}
		// Two states are equal, once the one ahead of the last one is accepted, and leads where the last one does.
		two := clone(a)
		two.Accept[4094] = true
		for l := range two.Letters {
			two.Next[4094*two.Letters+l] = two.Next[4095*two.Letters+l]
		}
		if is, e := minim.Is(two); is || e != api.OK {
			t.Errorf("Is of %s with two equal states is %v, %d", brief(a), is, e)
		}
	}
}

// TestP10_9Longest: the word is as long as it can be, the number of states less 2.
func TestP10_9Longest(t *testing.T) {
	for _, n := range []int{2, 3, 4, 64, 4095, 4096} {
		for _, k := range []int{1, 2, 8} {
			for _, a := range []api.Auto{lasso(k, n-1, 1, n-1), lasso(k, 0, n, n-1)} {
				longest := strings.Repeat("a", n-2)
				differs(t, a, 0, 1, longest, true)
				differs(t, a, 1, 0, longest, true)
				differs(t, a, 0, n-1, "", true)
				differs(t, a, n/2, n/2-1, strings.Repeat("a", n-1-n/2), true)
				differs(t, backward(a), n-1, n-2, longest, true)
			}
		}
	}
}

// TestP10_9LongestOfAllLetters: what is left of a word is told from nothing by itself alone.
func TestP10_9LongestOfAllLetters(t *testing.T) {
	d := dice(6)
	for _, letters := range []int{1, 2, 50, 4093, 4094} {
		w := d.word(8, letters)
		a, _ := auto.Word(8, w)
		none := leads(a, 0, w+"a")
		for _, cut := range []int{0, 1, letters / 2, letters - 1, letters} {
			s := leads(a, 0, w[:cut])
			differs(t, a, s, none, w[cut:], true)
			differs(t, a, none, s, w[cut:], true)
		}
	}
}

// TestP10_9MostPairs: many pairs of states are met ahead of two that are unlike, and none that are.
func TestP10_9MostPairs(t *testing.T) {
	// Two rings with no step in common: their states make 2047 times 2048 pairs.
	rings := beside(lasso(1, 0, 2047, 0), lasso(1, 0, 2048, 0))
	differs(t, rings, 0, 2047, strings.Repeat("a", 2047), true)
	differs(t, rings, 1, 2048, strings.Repeat("a", 2046), true)
	none := clone(rings)
	none.Accept = make([]bool, 4095)
	differs(t, none, 0, 2047, "", false)
	d := dice(8)
	for _, k := range []int{1, 2, 8} {
		m := d.thrown(k, 1000, 2)
		a, stands := d.blown(m, 4096)
		for range 2000 {
			s, u := d.below(4096), d.below(4096)
			w, found, _ := minim.Differ(m, stands[s], stands[u])
			differs(t, a, s, u, w, found)
		}
	}
}

// TestP10_7MostStates: rings are turned round without more states; other automata have too many for it, and Minimal answers all the same.
func TestP10_7MostStates(t *testing.T) {
	for _, a := range []api.Auto{lasso(1, 0, 4096, 0, 77), lasso(2, 0, 4096, 0, 1024, 2048, 3072), lasso(1, 0, 4095, 7, 9, 11)} {
		should, fits := twiceReversed(a)
		got, _, e := minim.Minimal(a)
		if !fits || e != api.OK || !same(got, should) {
			t.Errorf("Minimal of %s is %s, %d; Reverse of Reverse is %s", brief(a), brief(got), e, brief(should))
		}
	}
	d := dice(3)
	a := d.thrown(2, 200, 2)
	if _, fits := twiceReversed(a); fits {
		t.Errorf("%s should be too many", brief(a))
	}
	should, shouldTo := plainMinimal(a)
	got, to, e := minim.Minimal(a)
	gives(t, "Minimal of "+brief(a), got, to, e, should, shouldTo)
}
