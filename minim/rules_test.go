package minim_test

import (
	"math"
	"slices"
	"strings"
	"testing"

	"eggbox/api"
	"eggbox/minim"
)

// answers are what all calls answer.
type answers struct {
	minimal api.Auto
	lists   [3][]int // of Classes, Level, Minimal
	is      bool
	word    string
	found   bool
	errors  [5]api.Errno
}

func everyAnswer(a api.Auto, n, s, t int) answers {
	var out answers
	out.lists[0], out.errors[0] = minim.Classes(a)
	out.lists[1], out.errors[1] = minim.Level(a, n)
	out.minimal, out.lists[2], out.errors[2] = minim.Minimal(a)
	out.is, out.errors[3] = minim.Is(a)
	out.word, out.found, out.errors[4] = minim.Differ(a, s, t)
	return out
}

func (x answers) clone() answers {
	out := x
	out.minimal = clone(x.minimal)
	for i := range out.lists {
		out.lists[i] = slices.Clone(x.lists[i])
	}
	out.word = strings.Clone(x.word)
	return out
}

func (x answers) same(y answers) bool {
	for i := range x.lists {
		if !slices.Equal(x.lists[i], y.lists[i]) {
			return false
		}
	}
	return same(x.minimal, y.minimal) && x.is == y.is && x.word == y.word && x.found == y.found && x.errors == y.errors
}

// with is a with another number at a place of Next.
func with(a api.Auto, at, s int) api.Auto {
	out := clone(a)
	out.Next[at] = s
	return out
}

// notAutos are no automata.
func notAutos() []api.Auto {
	out := []api.Auto{
		{}, {Letters: 2}, {Letters: 1, Next: []int{0}}, {Accept: []bool{true}}, {Letters: 2, Next: []int{}, Accept: []bool{}},
		still(0, 1), still(0, 4096), still(9, 1), still(9, 4096), still(-1, 1), still(1, 0), still(1, 4097), still(8, 4097),
		{Letters: math.MaxInt, Next: []int{0}, Accept: []bool{true}},
		{Letters: math.MinInt, Accept: []bool{true, false}},
		{Letters: 1<<62 + 1, Next: make([]int, 4), Accept: make([]bool, 4)},
		{Letters: 4, Next: []int{0, 1}, Accept: []bool{true, false}},
	}
	for _, k := range []int{1, 2, 8} {
		for _, n := range []int{1, 2, 5, 4096} {
			a := still(k, n)
			last := len(a.Next) - 1
			out = append(out,
				made(k, a.Next[:last], a.Accept...), made(k, append(slices.Clone(a.Next), 0), a.Accept...),
				with(a, 0, -1), with(a, 0, n), with(a, last, -1), with(a, last, n), with(a, last, math.MaxInt), with(a, 0, math.MinInt))
		}
	}
	return out
}

// TestP10NoAutomaton: what is no automaton comes ahead of levels below 0 and of states that are none; nothing stands beside the error.
func TestP10NoAutomaton(t *testing.T) {
	for _, a := range notAutos() {
		for _, n := range []int{0, 1, -1, math.MinInt, math.MaxInt} {
			for _, p := range [][2]int{{0, 0}, {0, 1}, {-1, 0}, {0, 4096}, {math.MinInt, math.MaxInt}} {
				got := everyAnswer(a, n, p[0], p[1])
				var should answers
				for i := range should.errors {
					should.errors[i] = api.ErrAuto
				}
				if !got.same(should) {
					t.Fatalf("%s, %d, %v: %+v", brief(a), n, p, got)
				}
			}
		}
	}
}

// some are automata and what is none.
func some() []api.Auto { return slices.Concat(great(), everyAuto(2, 2), notAutos()) }

// roomy is the automaton in lists with room behind them, which is filled, so that a write there is seen.
func roomy(a api.Auto) api.Auto {
	next := append(slices.Clone(a.Next), 77, 78, 79, 80)
	accept := append(slices.Clone(a.Accept), true, false, true)
	return api.Auto{Letters: a.Letters, Next: next[:len(a.Next)], Accept: accept[:len(a.Accept)]}
}

// untouched: are the lists, and the room behind them, as roomy made them?
func untouched(a, kept api.Auto) bool {
	return same(a, kept) && slices.Equal(a.Next[len(a.Next):len(a.Next)+4], []int{77, 78, 79, 80}) && slices.Equal(a.Accept[len(a.Accept):len(a.Accept)+3], []bool{true, false, true})
}

func TestP1WhatIsHandedInIsNotChanged(t *testing.T) {
	for _, kept := range some() {
		a := roomy(kept)
		everyAnswer(a, 2, 0, len(a.Accept)-1)
		if !untouched(a, kept) {
			t.Fatalf("what was handed in was changed: %s", brief(kept))
		}
	}
}

// spoilers write each over one list of the answers, and the room behind it.
func spoilers(x answers) []func() {
	number := func(l []int) func() {
		return func() {
			for i := range l[:cap(l)] {
				l[:cap(l)][i] = -9
			}
		}
	}
	accept := func() {
		for i := range x.minimal.Accept[:cap(x.minimal.Accept)] {
			x.minimal.Accept[:cap(x.minimal.Accept)][i] = true
		}
	}
	return []func(){number(x.lists[0]), number(x.lists[1]), number(x.lists[2]), number(x.minimal.Next), accept}
}

// TestP1AnswersAreNewMemory: writing over what was handed in, and over other answers, changes none; and writing over a list of an answer changes no other list of it, nor what was handed in.
func TestP1AnswersAreNewMemory(t *testing.T) {
	for _, kept := range some() {
		a := clone(kept)
		first := everyAnswer(a, 1, 0, len(a.Accept)-1)
		should := first.clone()
		for _, spoil := range spoilers(everyAnswer(a, 1, 0, len(a.Accept)-1)) {
			spoil()
		}
		if !same(a, kept) || !first.same(should) {
			t.Fatalf("answers of %s share memory with one another, or with it", brief(kept))
		}
		spoilers(answers{minimal: a})[3]()
		spoilers(answers{minimal: a})[4]()
		if !first.same(should) {
			t.Fatalf("an answer shares memory with what was handed in: %s", brief(kept))
		}
		for i := range first.lists {
			spoilers(first)[i]()
			first.lists[i] = should.lists[i]
			if !first.same(should) {
				t.Fatalf("list %d of %s shares memory with another one", i, brief(kept))
			}
		}
	}
}

// TestP1MinimalIsNewMemory: also where a is minimal already, and asked again.
func TestP1MinimalIsNewMemory(t *testing.T) {
	for _, a := range great() {
		m, _, _ := minim.Minimal(a)
		kept := clone(m)
		again, to, _ := minim.Minimal(m)
		for _, spoil := range spoilers(answers{minimal: again, lists: [3][]int{nil, nil, to}}) {
			spoil()
		}
		if !same(m, kept) {
			t.Fatalf("Minimal of the minimal %s shares memory with it", brief(kept))
		}
	}
}

func TestP1TheSameAnswerAgain(t *testing.T) {
	all := some()
	var first []answers
	for _, a := range all {
		first = append(first, everyAnswer(a, 1, 0, 1))
	}
	for i, a := range slices.Backward(all) {
		if !everyAnswer(a, 1, 0, 1).same(first[i]) {
			t.Errorf("%s has other answers after other calls", brief(a))
		}
	}
}

func TestP1NoListIsTheEmptyList(t *testing.T) {
	for k := -1; k <= 9; k++ {
		none, empty := api.Auto{Letters: k}, api.Auto{Letters: k, Next: []int{}, Accept: []bool{}}
		if !everyAnswer(none, 0, 0, 0).same(everyAnswer(empty, 0, 0, 0)) {
			t.Errorf("%d letters: an empty list is not what no list is", k)
		}
	}
}

// TestP1EveryInputEndsWithoutPanic: lists of thrown lengths and numbers, some of which are automata.
func TestP1EveryInputEndsWithoutPanic(t *testing.T) {
	d := dice(17)
	right := 0
	for range 20000 {
		k, n := d.below(11)-1, d.below(6)
		a := api.Auto{Letters: k, Next: make([]int, max(0, k*n+d.below(8)/7)), Accept: make([]bool, n)}
		for i := range a.Next {
			a.Next[i] = d.below(n+1) - d.below(30)/29
		}
		for i := range a.Accept {
			a.Accept[i] = d.below(2) == 0
		}
		got := everyAnswer(a, d.below(8)-2, d.below(8)-1, d.below(8)-1)
		if got.errors[0] == api.OK {
			right++
		}
		zero := got.errors[0] == api.OK || len(got.lists[0])+len(got.lists[2]) == 0 && isZero(got.minimal) && !got.is
		if !zero || got.errors[1] != api.OK && len(got.lists[1]) > 0 || got.errors[4] != api.OK && (got.word != "" || got.found) {
			t.Fatalf("something stands beside an error of %s: %+v", brief(a), got)
		}
	}
	if right < 500 {
		t.Errorf("only %d calls had automata", right)
	}
}
