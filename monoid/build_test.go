package monoid_test

import (
	"math"
	"slices"
	"testing"

	"eggbox/api"
	"eggbox/monoid"
)

// refused holds Build to an error, with nothing beside it.
func refused(t *testing.T, what string, a api.Auto, should api.Errno) {
	t.Helper()
	if m, e := monoid.Build(a); m != nil || e != should {
		t.Errorf("Build of %s: a monoid: %v, %d; should be refused by %d", what, m != nil, e, should)
	}
}

// with is a with another number at a place of Next.
func with(a api.Auto, at, s int) api.Auto {
	out := api.Auto{Letters: a.Letters, Next: slices.Clone(a.Next), Accept: slices.Clone(a.Accept)}
	out.Next[at] = s
	return out
}

// notAutos are no automata: too many or too few letters or states, a list that is too long or too short, a number that is no state.
func notAutos() []api.Auto {
	out := []api.Auto{
		{}, {Letters: 2}, {Letters: 1, Next: []int{0}}, {Accept: []bool{true}}, {Letters: 2, Next: []int{}, Accept: []bool{}},
		still(0, 1), still(0, 64), still(0, 65), still(9, 1), still(9, 64), still(9, 65), still(1, 0), still(1, 4097), still(8, 4097),
		{Letters: -1, Next: []int{0}, Accept: []bool{true}},
		{Letters: math.MaxInt, Next: []int{0}, Accept: []bool{true}},
		{Letters: math.MinInt, Accept: []bool{true, false}},
		{Letters: 1<<62 + 1, Next: make([]int, 4), Accept: make([]bool, 4)},
		{Letters: 4, Next: []int{0, 1}, Accept: []bool{true, false}},
	}
	for _, k := range []int{1, 2, 8} {
		for _, n := range []int{1, 2, 5, 64, 65, 4096} {
			for _, a := range []api.Auto{still(k, n), lastLetter(k, n)} {
				last := len(a.Next) - 1
				out = append(out,
					api.Auto{Letters: k, Next: a.Next[:last], Accept: a.Accept}, api.Auto{Letters: k, Next: append(slices.Clone(a.Next), 0), Accept: a.Accept},
					with(a, 0, -1), with(a, 0, n), with(a, last, -1), with(a, last, n), with(a, last, math.MaxInt), with(a, 0, math.MinInt))
			}
		}
	}
	// All of these would have too many elements, too.
	for _, s := range tooMany() {
		out = append(out, with(s.a, 0, -1), with(s.a, len(s.a.Next)-1, len(s.a.Accept)))
	}
	return out
}

func TestP14_1NoAutomaton(t *testing.T) {
	for _, a := range notAutos() {
		refused(t, brief(a), a, api.ErrAuto)
	}
}

func TestP14_1Examples(t *testing.T) {
	if m := built(t, pairs()); m.Len() != 6 {
		t.Errorf("Len of the chapter's A: %d", m.Len())
	}
	refused(t, "65 states", beside(1, part{0, 0, 65}), api.ErrStates)
}

// TestP14_1TooManyStates: of more than MaxStates states none has a monoid, however few or many elements it would have.
func TestP14_1TooManyStates(t *testing.T) {
	d := dice(65)
	for _, k := range []int{1, 2, 8} {
		for _, n := range []int{65, 66, 100, 128, 512, 513, 4096} {
			for _, a := range []api.Auto{still(k, n), lastLetter(k, n), beside(k, part{0, 0, n}), d.auto(k, n), joined(pairs(), still(2, n-3))} {
				refused(t, brief(a), a, api.ErrStates)
			}
		}
	}
	for _, s := range tooMany() {
		refused(t, s.name, filled(s.a, 65), api.ErrStates)
	}
}

func TestP14_1TooManyElements(t *testing.T) {
	for _, s := range tooMany() {
		refused(t, s.name, s.a, api.ErrElems)
	}
}

// TestP14_1JustSoMany: MaxElems elements, and all below.
func TestP14_1JustSoMany(t *testing.T) {
	for _, s := range samples() {
		m := built(t, s.a)
		if s.elems != 0 && m.Len() != s.elems {
			t.Errorf("%s: %d elements, should be %d", s.name, m.Len(), s.elems)
		}
	}
	for tail := range 40 {
		if tail <= 8 {
			if m := built(t, powers(tail)); m.Len() != 504+tail {
				t.Errorf("%d powers: Len %d", 504+tail, m.Len())
			}
		} else {
			refused(t, "more than 512 powers", powers(tail), api.ErrElems)
		}
	}
}

// TestP14_1BuiltOrNot: just where the words make at most MaxElems transformations.
func TestP14_1BuiltOrNot(t *testing.T) {
	d := dice(141)
	met := map[bool]int{}
	for range 900 {
		a := d.auto(1+d.below(8), 1+d.below(7))
		x, few := byBeginnings(a)
		met[few]++
		if !few {
			refused(t, brief(a), a, api.ErrElems)
		} else if m := built(t, a); m.Len() != len(x.words) {
			t.Errorf("%s: Len %d, should be %d", brief(a), m.Len(), len(x.words))
		}
	}
	if met[true] < 100 || met[false] < 100 {
		t.Errorf("%d are built, %d are not", met[true], met[false])
	}
}

// TestP14_1AgainAndAgain: what was refused changes nothing for what is built later.
func TestP14_1AgainAndAgain(t *testing.T) {
	for range 3 {
		refused(t, "513 powers", powers(9), api.ErrElems)
		refused(t, "65 states", still(2, 65), api.ErrStates)
		if m := built(t, powers(8)); m.Len() != 512 {
			t.Errorf("512 powers: Len %d", m.Len())
		}
	}
}

func TestP14_2Looks(t *testing.T) {
	for _, s := range samples() {
		m := built(t, s.a)
		x, _ := byBeginnings(s.a)
		if m.Len() != len(x.words) || m.Letters() != s.a.Letters || !same(m.Auto(), s.a) {
			t.Errorf("%s: Len %d, should be %d; Letters %d; Auto %s", s.name, m.Len(), len(x.words), m.Letters(), brief(m.Auto()))
		}
	}
	for _, a := range smallOnes() {
		m := built(t, a)
		x, _ := byAllWords(a)
		if m.Len() != len(x.words) || m.Letters() != a.Letters || !same(m.Auto(), a) {
			t.Fatalf("%s: Len %d, should be %d; Letters %d; Auto %s", brief(a), m.Len(), len(x.words), m.Letters(), brief(m.Auto()))
		}
	}
}

// TestP14_2StatesThatAreNotMet: they stay in Auto, and tell elements apart.
func TestP14_2StatesThatAreNotMet(t *testing.T) {
	a := joined(still(2, 1), pairs())
	m := built(t, a)
	if m.Len() != 6 || len(m.Auto().Accept) != 4 || !same(m.Auto(), a) {
		t.Errorf("one state, and three that are not met: Len %d, Auto %s", m.Len(), brief(m.Auto()))
	}
}
