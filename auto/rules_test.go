package auto_test

import (
	"slices"
	"strings"
	"testing"
	"unsafe"

	"eggbox/api"
	"eggbox/auto"
)

// answers are what all calls answer.
type answers struct {
	autos  []api.Auto
	to     int
	is     bool
	least  string
	found  bool
	errors []api.Errno
}

func everyAnswer(a, b api.Auto, s int, w string) answers {
	var out answers
	keep := func(got api.Auto, e api.Errno) {
		out.autos = append(out.autos, got)
		out.errors = append(out.errors, e)
	}
	keep(auto.Reach(a))
	keep(auto.Word(a.Letters, w))
	keep(auto.Not(a))
	keep(auto.Both(a, b))
	keep(auto.Either(a, b))
	keep(auto.But(a, b))
	keep(auto.Reverse(a))
	keep(auto.Concat(a, b))
	keep(auto.Star(a))
	keep(auto.Ahead(a, w))
	keep(auto.Behind(a, w))
	var run, accepts, least api.Errno
	out.to, run = auto.Run(a, s, w)
	out.is, accepts = auto.Accepts(a, w)
	out.least, out.found, least = auto.Least(a)
	out.errors = append(out.errors, auto.Check(a), run, accepts, least)
	return out
}

func (x answers) clone() answers {
	out := x
	out.autos = nil
	for _, a := range x.autos {
		out.autos = append(out.autos, clone(a))
	}
	out.least = strings.Clone(x.least)
	return out
}

func (x answers) same(y answers) bool {
	return slices.EqualFunc(x.autos, y.autos, same) && x.to == y.to && x.is == y.is && x.least == y.least && x.found == y.found && slices.Equal(x.errors, y.errors)
}

// somePairs are automata of the same letters, of unlike ones, and what is none.
func somePairs() [][2]api.Auto {
	out := samplePairs()[:800]
	for _, a := range great()[:100] {
		out = append(out, [2]api.Auto{a, a}, [2]api.Auto{a, bStar()})
	}
	for _, a := range notAutos() {
		out = append(out, [2]api.Auto{a, bStar()}, [2]api.Auto{bStar(), a})
	}
	return out
}

// roomy is the automaton in lists with room behind them, which is filled, so that a write there is seen.
func roomy(a api.Auto) api.Auto {
	next := append(slices.Clone(a.Next), 77, 78, 79, 80)
	accept := append(slices.Clone(a.Accept), true, false, true)
	return api.Auto{Letters: a.Letters, Next: next[:len(a.Next)], Accept: accept[:len(a.Accept)]}
}

// untouched: are the lists, and the room behind them, as roomy made them?
func untouched(a, kept api.Auto) bool {
	return same(a, kept) && slices.Equal(a.Next[len(a.Next):len(a.Next)+4], []int{77, 78, 79, 80}) && slices.Equal(a.Accept[len(a.Accept):len(a.Accept)+3], []bool{true, false, true})
}

func TestP1WhatIsHandedInIsNotChanged(t *testing.T) {
	for _, p := range somePairs() {
		a, b := roomy(p[0]), roomy(p[1])
		for _, w := range []string{"", "a", "ba"} {
			text := []byte(w + "z")
			everyAnswer(a, b, 0, unsafe.String(&text[0], len(w)))
			if !untouched(a, p[0]) || !untouched(b, p[1]) || string(text) != w+"z" {
				t.Fatalf("what was handed in was changed: %s and %s, %q", brief(p[0]), brief(p[1]), w)
			}
		}
	}
}

// spoil writes over an automaton's lists and the room behind them.
func spoil(a api.Auto) {
	next, accept := a.Next[:cap(a.Next)], a.Accept[:cap(a.Accept)]
	for i := range next {
		next[i] = -9
	}
	for i := range accept {
		accept[i] = !accept[i]
	}
}

// TestP1AnswersAreNewMemory: writing over one answer, and over what was handed in, changes no other one.
func TestP1AnswersAreNewMemory(t *testing.T) {
	for _, p := range somePairs() {
		for _, w := range []string{"", "a"} {
			a, b := clone(p[0]), clone(p[1])
			text := []byte(w + "z")
			kept := everyAnswer(a, b, 0, unsafe.String(&text[0], len(w)))
			should := kept.clone()
			for i, made := range everyAnswer(a, b, 0, w).autos {
				spoil(made)
				if !same(a, p[0]) || !same(b, p[1]) || !kept.same(should) {
					t.Fatalf("answer %d of %s and %s shares memory", i, brief(p[0]), brief(p[1]))
				}
			}
			spoil(a)
			spoil(b)
			text[0] = 'h'
			if !kept.same(should) {
				t.Fatalf("an answer shares memory with what was handed in: %s and %s", brief(p[0]), brief(p[1]))
			}
			for i := range kept.autos {
				spoil(kept.autos[i])
				for j := i + 1; j < len(kept.autos); j++ {
					if !same(kept.autos[j], should.autos[j]) {
						t.Fatalf("answers %d and %d of %s share memory", i, j, brief(p[0]))
					}
				}
			}
		}
	}
}

func TestP1TheSameAnswerAgain(t *testing.T) {
	all := somePairs()
	var first []answers
	for _, p := range all {
		first = append(first, everyAnswer(p[0], p[1], 0, "ab"))
	}
	for i, p := range slices.Backward(all) {
		if !everyAnswer(p[0], p[1], 0, "ab").same(first[i]) {
			t.Errorf("%s and %s have other answers after other calls", brief(p[0]), brief(p[1]))
		}
	}
}

func TestP1NoListIsTheEmptyList(t *testing.T) {
	for k := -1; k <= 9; k++ {
		none, empty := api.Auto{Letters: k}, api.Auto{Letters: k, Next: []int{}, Accept: []bool{}}
		for _, p := range [][2]api.Auto{{none, none}, {none, empty}, {empty, none}, {empty, empty}} {
			got := everyAnswer(p[0], p[1], 0, "")
			if should := everyAnswer(none, none, 0, ""); !got.same(should) {
				t.Errorf("%d letters: an empty list is not what no list is", k)
			}
		}
	}
}

// TestP1EveryInputEndsWithoutPanic: lists of thrown lengths and numbers, some of which are automata.
func TestP1EveryInputEndsWithoutPanic(t *testing.T) {
	d := dice(17)
	anything := func() api.Auto {
		k, n := d.below(11)-1, d.below(6)
		out := api.Auto{Letters: k, Next: make([]int, max(0, k*n+d.below(8)/7)), Accept: make([]bool, n)}
		for i := range out.Next {
			out.Next[i] = d.below(n+1) - d.below(30)/29
		}
		for i := range out.Accept {
			out.Accept[i] = d.below(2) == 0
		}
		return out
	}
	right := 0
	for range 5000 {
		a, b := anything(), anything()
		got := everyAnswer(a, b, d.below(8)-1, d.word(1+d.below(9), d.below(6)))
		for i, made := range got.autos {
			if got.errors[i] != api.OK && !isZero(made) {
				t.Fatalf("something stands beside the error %d of %s and %s", got.errors[i], brief(a), brief(b))
			}
			if got.errors[i] == api.OK {
				right++
			}
		}
	}
	if right < 500 {
		t.Errorf("only %d calls had automata", right)
	}
}
