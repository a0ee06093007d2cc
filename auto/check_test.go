package auto_test

import (
	"math"
	"slices"
	"testing"

	"eggbox/api"
	"eggbox/auto"
)

// still is the automaton of k letters and n states where each letter stays.
func still(k, n int) api.Auto {
	out := api.Auto{Letters: k, Next: make([]int, max(k*n, 0)), Accept: make([]bool, n)}
	for i := range out.Next {
		out.Next[i] = i / k
	}
	return out
}

// with is a with another number at a place of Next.
func with(a api.Auto, at, s int) api.Auto {
	out := clone(a)
	out.Next[at] = s
	return out
}

// notAutos are no automata.
func notAutos() []api.Auto {
	out := []api.Auto{
		{}, {Letters: 2}, {Letters: 1, Next: []int{0}}, {Accept: []bool{true}}, {Letters: 2, Next: []int{}, Accept: []bool{}},
		{Letters: 2, Accept: []bool{true}}, {Next: []int{0}, Accept: []bool{true}},
		still(0, 1), still(0, 4096), still(9, 1), still(9, 3), still(9, 4096), still(-1, 1), still(1, 0), still(8, 0), still(1, 4097), still(2, 4097), still(8, 4097), still(1, 9000),
		{Letters: -1, Next: []int{0}, Accept: []bool{true}},
		{Letters: math.MaxInt, Next: []int{0}, Accept: []bool{true}},
		{Letters: math.MinInt, Next: []int{0}, Accept: []bool{true}},
		// The product of states and letters wraps round to 0, and to what Next has.
		{Letters: math.MinInt, Accept: []bool{true, false}},
		{Letters: 1 << 62, Accept: make([]bool, 4)},
		{Letters: 1<<62 + 1, Next: make([]int, 4), Accept: make([]bool, 4)},
		{Letters: 4, Next: []int{0, 1}, Accept: []bool{true, false}},
		{Letters: 1, Next: []int{0, 1, 0, 1}, Accept: []bool{true, false}},
	}
	for _, k := range []int{1, 2, 8} {
		for _, n := range []int{1, 2, 5, 4096} {
			a := still(k, n)
			last := len(a.Next) - 1
			out = append(out,
				made(k, a.Next[:last], a.Accept...), made(k, append(slices.Clone(a.Next), 0), a.Accept...),
				with(a, 0, -1), with(a, 0, n), with(a, last, -1), with(a, last, n), with(a, last/2, n), with(a, last/2, -1),
				with(a, last, math.MaxInt), with(a, 0, math.MinInt), with(a, last, n+1), with(a, 0, 4096))
		}
	}
	return out
}

func TestP8_1Check(t *testing.T) {
	for _, k := range []int{1, 2, 7, 8} {
		for _, n := range []int{1, 2, 63, 64, 65, 4095, 4096} {
			a := still(k, n)
			last := len(a.Next) - 1
			for _, a := range []api.Auto{a, with(a, 0, n-1), with(a, last, 0), with(a, last, n-1)} {
				if e := auto.Check(a); e != api.OK {
					t.Errorf("Check of %d letters, %d states: %d", k, n, e)
				}
			}
		}
	}
	for _, a := range samples() {
		if e := auto.Check(a); e != api.OK {
			t.Errorf("Check of %s: %d", brief(a), e)
		}
	}
}

func TestP8_1NoAutomaton(t *testing.T) {
	for _, a := range notAutos() {
		if e := auto.Check(a); e != api.ErrAuto {
			t.Errorf("Check of %s: %d", brief(a), e)
		}
	}
}

// TestP8_1EachCallRefuses: what is no automaton comes ahead of a state and a word that are none.
func TestP8_1EachCallRefuses(t *testing.T) {
	for _, a := range notAutos() {
		for _, w := range []string{"", "a", "i", "\xff"} {
			for _, s := range []int{0, -1, 1 << 40} {
				if to, e := auto.Run(a, s, w); to != 0 || e != api.ErrAuto {
					t.Errorf("Run of %s is %d, %d", brief(a), to, e)
				}
			}
			if is, e := auto.Accepts(a, w); is || e != api.ErrAuto {
				t.Errorf("Accepts of %s is %v, %d", brief(a), is, e)
			}
			ahead, e := auto.Ahead(a, w)
			refused(t, "Ahead of "+brief(a), ahead, e, api.ErrAuto)
			behind, e := auto.Behind(a, w)
			refused(t, "Behind of "+brief(a), behind, e, api.ErrAuto)
		}
		if w, found, e := auto.Least(a); w != "" || found || e != api.ErrAuto {
			t.Errorf("Least of %s is %q, %v, %d", brief(a), short(w), found, e)
		}
		for _, c := range ones() {
			got, e := c.call(a)
			refused(t, c.name+" of "+brief(a), got, e, api.ErrAuto)
		}
	}
}

// TestP8_1OneOfTwo: an automaton that is none, in either place, comes ahead of unlike letters.
func TestP8_1OneOfTwo(t *testing.T) {
	for _, c := range twos() {
		for _, bad := range notAutos() {
			for _, good := range []api.Auto{bStar(), whole(1), nothing(8)} {
				got, e := c.call(bad, good)
				refused(t, c.name+" of "+brief(bad)+" and "+brief(good), got, e, api.ErrAuto)
				got, e = c.call(good, bad)
				refused(t, c.name+" of "+brief(good)+" and "+brief(bad), got, e, api.ErrAuto)
			}
			got, e := c.call(bad, bad)
			refused(t, c.name+" of two that are none", got, e, api.ErrAuto)
		}
	}
}

// TestP8_1UnlikeLetters: also where the states would be too many.
func TestP8_1UnlikeLetters(t *testing.T) {
	all := []api.Auto{bStar(), lasso(0, 17, 0), lasso(0, 4096, 0), still(3, 4096)}
	for k := 1; k <= 8; k++ {
		all = append(all, whole(k), nothing(k))
	}
	for _, c := range twos() {
		for _, a := range all {
			for _, b := range all {
				if a.Letters != b.Letters {
					got, e := c.call(a, b)
					refused(t, c.name+" of "+brief(a)+" and "+brief(b), got, e, api.ErrLetters)
				}
			}
		}
	}
}
