package equal_test

import (
	"math"
	"slices"
	"strings"
	"testing"

	"eggbox/api"
	"eggbox/equal"
)

// answers are what all calls answer.
type answers struct {
	verdicts [2]bool // of Equal, Inside
	words    [3]string
	found    [3]bool // of Differ, Escape, Meet
	errors   [5]api.Errno
}

func everyAnswer(a, b api.Auto) answers {
	var out answers
	out.verdicts[0], out.errors[0] = equal.Equal(a, b)
	out.verdicts[1], out.errors[1] = equal.Inside(a, b)
	out.words[0], out.found[0], out.errors[2] = equal.Differ(a, b)
	out.words[1], out.found[1], out.errors[3] = equal.Escape(a, b)
	out.words[2], out.found[2], out.errors[4] = equal.Meet(a, b)
	return out
}

// refusal is what all calls answer beside an error.
func refusal(e api.Errno) answers { return answers{errors: [5]api.Errno{e, e, e, e, e}} }

// refuses holds all calls to an error, with nothing beside it.
func refuses(t *testing.T, a, b api.Auto, e api.Errno) {
	t.Helper()
	if got := everyAnswer(a, b); got != refusal(e) {
		t.Errorf("%s and %s: %+v; should be refused by %d", brief(a), brief(b), got, e)
	}
}

// with is a with another number at a place of Next.
func with(a api.Auto, at, s int) api.Auto {
	out := clone(a)
	out.Next[at] = s
	return out
}

// notAutos are no automata.
func notAutos() []api.Auto {
	out := []api.Auto{
		{}, {Letters: 2}, {Letters: 1, Next: []int{0}}, {Accept: []bool{true}}, {Letters: 2, Next: []int{}, Accept: []bool{}},
		still(0, 1), still(0, 4096), still(9, 1), still(9, 4096), still(-1, 1), still(1, 0), still(1, 4097), still(8, 4097), still(1, 70000),
		{Letters: math.MaxInt, Next: []int{0}, Accept: []bool{true}},
		{Letters: math.MinInt, Accept: []bool{true, false}},
		{Letters: 1<<62 + 1, Next: make([]int, 4), Accept: make([]bool, 4)},
		{Letters: 4, Next: []int{0, 1}, Accept: []bool{true, false}},
	}
	for _, k := range []int{1, 2, 8} {
		for _, n := range []int{1, 2, 5, 4096} {
			a := still(k, n)
			last := len(a.Next) - 1
			out = append(out,
				made(k, a.Next[:last], a.Accept...), made(k, append(slices.Clone(a.Next), 0), a.Accept...),
				with(a, 0, -1), with(a, 0, n), with(a, last, -1), with(a, last, n), with(a, last, math.MaxInt), with(a, 0, math.MinInt), with(a, last, 65536))
		}
	}
	return out
}

// TestP12NoAutomaton: in either place and in both, of the same letters and of others: ErrAuto comes ahead of ErrLetters.
func TestP12NoAutomaton(t *testing.T) {
	bad := notAutos()
	good := []api.Auto{bStar(), still(2, 4096)}
	for k := 1; k <= 8; k++ {
		good = append(good, whole(k), nothing(k))
	}
	for i, a := range bad {
		for _, b := range good {
			refuses(t, a, b, api.ErrAuto)
			refuses(t, b, a, api.ErrAuto)
		}
		refuses(t, a, a, api.ErrAuto)
		refuses(t, a, bad[(i+1)%len(bad)], api.ErrAuto)
		refuses(t, a, bad[(i+17)%len(bad)], api.ErrAuto)
	}
}

// TestP12UnlikeLetters: whatever the languages, and however many states.
func TestP12UnlikeLetters(t *testing.T) {
	d := dice(8)
	var all []api.Auto
	for k := 1; k <= 8; k++ {
		all = append(all, whole(k), nothing(k), d.thrown(k, 7, 2), lasso(k, 0, 4096, 4095))
	}
	for _, a := range all {
		for _, b := range all {
			if a.Letters != b.Letters {
				refuses(t, a, b, api.ErrLetters)
			}
		}
	}
}

// some are pairs of automata, of one number of letters and of unlike ones, and of what is none.
func some() [][2]api.Auto {
	out := samples()[:600]
	bad := notAutos()
	for i, a := range bad {
		out = append(out, [2]api.Auto{a, bStar()}, [2]api.Auto{bStar(), a}, [2]api.Auto{a, bad[len(bad)-1-i]})
	}
	a, b := periodic(2, 4096, 4095, 0)
	return append(out, [2]api.Auto{whole(1), whole(2)}, [2]api.Auto{a, b}, [2]api.Auto{b, a}, [2]api.Auto{a, whole(3)})
}

// roomy is the automaton in lists with room behind them, which is filled, so that a write there is seen.
func roomy(a api.Auto) api.Auto {
	next := append(slices.Clone(a.Next), 77, 78, 79, 80)
	accept := append(slices.Clone(a.Accept), true, false, true)
	return api.Auto{Letters: a.Letters, Next: next[:len(a.Next)], Accept: accept[:len(a.Accept)]}
}

// untouched: are the lists, and the room behind them, as roomy made them?
func untouched(a, kept api.Auto) bool {
	return same(a, kept) && slices.Equal(a.Next[len(a.Next):len(a.Next)+4], []int{77, 78, 79, 80}) && slices.Equal(a.Accept[len(a.Accept):len(a.Accept)+3], []bool{true, false, true})
}

func TestP1WhatIsHandedInIsNotChanged(t *testing.T) {
	for _, p := range some() {
		a, b := roomy(p[0]), roomy(p[1])
		everyAnswer(a, b)
		if !untouched(a, p[0]) || !untouched(b, p[1]) {
			t.Fatalf("what was handed in was changed: %s and %s", brief(p[0]), brief(p[1]))
		}
	}
}

// spoil writes over an automaton's lists.
func spoil(a api.Auto) {
	for i := range a.Next {
		a.Next[i] = -9
	}
	for i := range a.Accept {
		a.Accept[i] = !a.Accept[i]
	}
}

// TestP1AnswersAreNewMemory: writing over what was handed in changes no answer, and none of later calls.
func TestP1AnswersAreNewMemory(t *testing.T) {
	for _, p := range some() {
		a, b := clone(p[0]), clone(p[1])
		got := everyAnswer(a, b)
		kept := got
		for i := range kept.words {
			kept.words[i] = strings.Clone(got.words[i])
		}
		spoil(a)
		spoil(b)
		if got != kept || everyAnswer(p[0], p[1]) != kept {
			t.Fatalf("%s and %s: an answer hangs on what was handed in, once that is answered", brief(p[0]), brief(p[1]))
		}
	}
}

func TestP1TheSameAnswerAgain(t *testing.T) {
	all := some()
	var first []answers
	for _, p := range all {
		first = append(first, everyAnswer(p[0], p[1]))
	}
	for i, p := range slices.Backward(all) {
		if everyAnswer(p[0], p[1]) != first[i] {
			t.Errorf("%s and %s have other answers after other calls", brief(p[0]), brief(p[1]))
		}
	}
}

// TestP1OneAutomatonTwice: the two may be one value, with the same memory.
func TestP1OneAutomatonTwice(t *testing.T) {
	for _, p := range some() {
		if everyAnswer(p[0], p[0]) != everyAnswer(p[0], clone(p[0])) {
			t.Errorf("%s and itself is not as with a copy", brief(p[0]))
		}
	}
}

func TestP1NoListIsTheEmptyList(t *testing.T) {
	for k := -1; k <= 9; k++ {
		none, empty := api.Auto{Letters: k}, api.Auto{Letters: k, Next: []int{}, Accept: []bool{}}
		for _, a := range []api.Auto{none, empty, bStar()} {
			if everyAnswer(none, a) != everyAnswer(empty, a) || everyAnswer(a, none) != everyAnswer(a, empty) {
				t.Errorf("%d letters: an empty list is not what no list is", k)
			}
		}
	}
}

// anything is an automaton or, by a number or a length, none.
func (d *dice) anything() api.Auto {
	k, n := d.below(11)-1, d.below(5)
	if d.below(2) == 0 {
		k = 2
	}
	out := api.Auto{Letters: k, Next: make([]int, max(0, k*n+d.below(8)/7)), Accept: make([]bool, n)}
	for i := range out.Next {
		out.Next[i] = d.below(max(n, 1)+d.below(30)/29) - d.below(60)/59
	}
	for i := range out.Accept {
		out.Accept[i] = d.below(2) == 0
	}
	return out
}

// isAuto: is it one, by the definition of chapter 8?
func isAuto(a api.Auto) bool {
	n := len(a.Accept)
	outside := func(s int) bool { return s < 0 || s >= n }
	return a.Letters >= 1 && a.Letters <= 8 && n >= 1 && n <= 4096 && len(a.Next) == n*a.Letters && !slices.ContainsFunc(a.Next, outside)
}

// TestP1EveryInputEndsWithoutPanic: lists of thrown lengths and numbers, some of which are automata; each call answers its error alone, in their order.
func TestP1EveryInputEndsWithoutPanic(t *testing.T) {
	d := dice(17)
	met := map[api.Errno]int{}
	for range 20000 {
		a, b := d.anything(), d.anything()
		e := api.OK
		if !isAuto(a) || !isAuto(b) {
			e = api.ErrAuto
		} else if a.Letters != b.Letters {
			e = api.ErrLetters
		}
		met[e]++
		got := everyAnswer(a, b)
		if e != api.OK && got != refusal(e) || e == api.OK && got.errors != refusal(e).errors {
			t.Fatalf("%s and %s: %+v; should be %d", brief(a), brief(b), got, e)
		}
	}
	if met[api.OK] < 500 || met[api.ErrAuto] < 500 || met[api.ErrLetters] < 500 {
		t.Errorf("of the calls %v", met)
	}
}
