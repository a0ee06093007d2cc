package minim_test

import (
	"slices"
	"testing"

	"eggbox/api"
	"eggbox/auto"
	"eggbox/minim"
)

func TestP10_2Examples(t *testing.T) {
	got, to, e := minim.Minimal(odd())
	gives(t, "Minimal(A)", got, to, e, made(1, []int{1, 0}, false, true), []int{0, 1, 0, 1})
	got, to, e = minim.Minimal(apartOne())
	gives(t, "Minimal(B)", got, to, e, made(1, []int{0}, true), []int{0, -1})
}

func TestP10_2Minimal(t *testing.T) {
	for _, a := range samples() {
		should, shouldTo := plainMinimal(a)
		got, to, e := minim.Minimal(a)
		gives(t, "Minimal of "+brief(a), got, to, e, should, shouldTo)
	}
}

// TestP10_2AllAndNone: all states accepted, none accepted.
func TestP10_2AllAndNone(t *testing.T) {
	d := dice(3)
	for k := 1; k <= 8; k++ {
		for _, n := range []int{1, 2, 7, 4096} {
			a := d.thrown(k, n, 1)
			got, to, e := minim.Minimal(a)
			gives(t, "Minimal of all of "+brief(a), got, to, e, whole(k), make([]int, n))
			a.Accept = turned(a.Accept)
			got, to, e = minim.Minimal(a)
			gives(t, "Minimal of none of "+brief(a), got, to, e, nothing(k), make([]int, n))
		}
	}
}

// TestP10_2NotMet: states that are not met, with the language of a met one and with one that none has.
func TestP10_2NotMet(t *testing.T) {
	// Of the words of a and b: those with an odd number of a's.
	a := made(2, []int{1, 0, 0, 1}, false, true)
	for _, c := range []struct {
		b  api.Auto
		to []int
	}{
		{a, []int{0, 1, 0, 1}},
		{made(2, []int{1, 0, 0, 1}, true, false), []int{0, 1, 1, 0}},
		{whole(2), []int{0, 1, -1}},
		{nothing(2), []int{0, 1, -1}},
		{made(2, []int{1, 0, 1, 1}, true, false), []int{0, 1, -1, -1}},
	} {
		both := beside(a, c.b)
		got, to, e := minim.Minimal(both)
		gives(t, "Minimal of "+brief(both), got, to, e, a, c.to)
	}
	// The last state is not met and leads to one that is.
	leads := made(2, []int{1, 0, 0, 1, 0, 1, 1, 1}, false, true, true, false)
	got, to, e := minim.Minimal(leads)
	gives(t, "Minimal of "+brief(leads), got, to, e, a, []int{0, 1, 1, -1})
}

// TestP10_2ToHasTheLanguage: word by word, each state's number has its language; -1 stands just where no state that is met has it.
func TestP10_2ToHasTheLanguage(t *testing.T) {
	for _, a := range samples() {
		got, to, e := minim.Minimal(a)
		if e != api.OK || len(to) != len(a.Accept) || auto.Check(got) != api.OK {
			t.Fatalf("Minimal of %s is %s, %s, %d", brief(a), brief(got), shortList(to), e)
		}
		all := words(a.Letters, fewWords(a.Letters))
		for s := range to {
			if to[s] >= 0 && said(got, to[s], all) != said(a, s, all) {
				t.Errorf("Minimal of %s: state %d is not %d", brief(a), s, to[s])
			}
		}
		for _, w := range all {
			if s := leads(a, 0, w); to[s] != leads(got, 0, w) {
				t.Errorf("Minimal of %s: %q leads to %d, which should be %d", brief(a), w, leads(got, 0, w), to[s])
			}
		}
	}
}

func TestP10_2ManyOfOneLanguage(t *testing.T) {
	d := dice(2026)
	for range 200 {
		k := 1 + d.below(8)
		m, _, _ := minim.Minimal(d.thrown(k, 1+d.below(30), 3))
		blown, stands := d.blown(m, len(m.Accept)+d.below(60))
		got, to, e := minim.Minimal(blown)
		gives(t, "Minimal of "+brief(blown), got, to, e, m, stands)
		names := d.names(len(stands))
		got, to, e = minim.Minimal(renamed(blown, names))
		shouldTo := make([]int, len(names))
		for s, name := range names {
			shouldTo[name] = stands[s]
		}
		gives(t, "Minimal of "+brief(blown)+" with other names", got, to, e, m, shouldTo)
	}
}

func TestP10_3Examples(t *testing.T) {
	for _, c := range []struct {
		a      api.Auto
		should bool
	}{
		{odd(), false}, {apartOne(), false}, {made(1, []int{1, 0}, false, true), true}, {whole(1), true}, {nothing(8), true},
		// Its states have unlike languages, but it is not in order: b leads to 1 and a to 2.
		{made(2, []int{2, 1, 1, 1, 2, 2}, false, false, true), false},
		{made(2, []int{1, 2, 1, 1, 2, 2}, false, false, true), true},
	} {
		if is, e := minim.Is(c.a); is != c.should || e != api.OK {
			t.Errorf("Is of %s is %v, %d", brief(c.a), is, e)
		}
	}
}

func TestP10_3Is(t *testing.T) {
	found := map[bool]int{}
	for _, a := range samples() {
		m, _ := plainMinimal(a)
		is, e := minim.Is(a)
		if is != same(a, m) || e != api.OK {
			t.Errorf("Is of %s is %v, %d", brief(a), is, e)
		}
		if is, e := minim.Is(m); !is || e != api.OK {
			t.Errorf("Is of the minimal %s is %v, %d", brief(m), is, e)
		}
		found[is]++
	}
	if found[true] < 100 || found[false] < 100 {
		t.Errorf("of the samples %d are minimal, %d are not", found[true], found[false])
	}
}

// TestP10_3OneThingWrong: other names, one state more that is not met, one more that is equal.
func TestP10_3OneThingWrong(t *testing.T) {
	d := dice(9)
	for range 200 {
		k := 2 + d.below(7)
		m, _, _ := minim.Minimal(d.thrown(k, 3+d.below(20), 3))
		n := len(m.Accept)
		more, _ := d.blown(m, n+1)
		wrong := []api.Auto{beside(m, whole(k)), beside(m, m), more}
		if names := d.names(n); !slices.Equal(names, numbers(n)) {
			wrong = append(wrong, renamed(m, names))
		}
		for _, a := range wrong {
			if is, e := minim.Is(a); is || e != api.OK {
				t.Errorf("Is of %s is %v, %d", brief(a), is, e)
			}
		}
	}
}
