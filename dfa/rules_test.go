package dfa_test

import (
	"math"
	"slices"
	"strings"
	"testing"

	"eggbox/api"
	"eggbox/dfa"
)

// notTrees are lists of at most MaxNodes nodes that are no trees.
func notTrees() [][]api.Node {
	a, h, union, star := a[0], letter('h')[0], api.Node{Kind: api.Union}, api.Node{Kind: api.Star}
	return [][]api.Node{
		nil, {}, {a, a}, {star}, {union}, {a, union}, {star, a}, {union, a, a}, {a, a, a, union}, {a, a, union, union}, {h, h}, {h, union},
		{{Kind: 0}}, {{Kind: 10}}, {{Kind: -1}}, letter('i'), letter('`'), letter(0), {{Kind: api.Any, Sign: 'a'}}, {a, {Kind: api.Not, Sign: 1}},
		{{Kind: 10}, star}, {{Kind: -1}, a, union}, {{Kind: math.MaxInt}}, {{Kind: math.MinInt}}, make([]api.Node, 4000),
		// Too deep, and with letters past the first ones, as well.
		append(nested(letter('h'), 200, api.Star), h), append(nested(b, 3998, api.Not), a), append(times(1999, 'h'), h, h, h),
	}
}

// tooGreat are lists of more than MaxNodes nodes, trees and others.
func tooGreat() [][]api.Node {
	return [][]api.Node{
		times(2001, 'a'), times(2001, 'h'), even(api.Union, slices.Repeat([][]api.Node{b}, 2001)...), not(not(times(2000, 'a'))),
		nested(a, 4000, api.Star), make([]api.Node, 4001), make([]api.Node, 100000), slices.Repeat(a, 4001), slices.Repeat(letter('i'), 4001),
	}
}

// tooDeep are trees whose depth is above MaxDepth: by one, and by many; their normal forms are flat.
func tooDeep(leaf []api.Node) [][]api.Node {
	lean := leaf
	for range api.MaxDepth {
		lean = or(lean, leaf)
	}
	return [][]api.Node{
		nested(leaf, api.MaxDepth, api.Star), nested(leaf, api.MaxDepth, api.Not), nested(leaf, 3999, api.Not), lean, cat(none, lean), or(all, nested(leaf, api.MaxDepth-1, api.Not)),
	}
}

// noLetters are numbers of letters that are none.
func noLetters() []int { return []int{0, -1, 9, 10, 256, -8, math.MaxInt, math.MinInt} }

func TestP901TreesAndSizes(t *testing.T) {
	for k := 1; k <= 8; k++ {
		for _, l := range notTrees() {
			refused(t, "a list that is no tree", k, l, api.ErrTree)
		}
		for _, l := range tooGreat() {
			refused(t, "a list that is too long", k, l, api.ErrSize)
		}
		for _, leaf := range [][]api.Node{a, letter('h'), none} {
			for _, l := range tooDeep(leaf) {
				refused(t, "a tree that is too deep", k, l, api.ErrDepth)
			}
		}
	}
}

func TestP901NumbersOfLetters(t *testing.T) {
	trees := [][]api.Node{a, none, empty, all, letter('h'), star(cat(a, b)), times(300, 'a'), times(300, 'h'), over, not(full)}
	for _, k := range noLetters() {
		for _, l := range slices.Concat(trees, notTrees(), tooGreat(), tooDeep(a)) {
			refused(t, "a list", k, l, api.ErrLetters)
		}
	}
	for k := 1; k <= 8; k++ {
		has(t, "None", k, none, 1)
		has(t, "a star", k, star(a), min(k, 2))
	}
}

// TestP901Letters: the first k may stand there, the next one may not, wherever it stands and whether it says anything or not.
func TestP901Letters(t *testing.T) {
	for k := 1; k <= 8; k++ {
		last := letter('a' + byte(k-1))
		has(t, "the last letter", k, last, 3)
		has(t, "a complement", k, not(last), 3)
		for past := k; past < 8; past++ {
			x := letter('a' + byte(past))
			for _, l := range [][]api.Node{
				x, star(x), not(x), or(a, x), or(x, a), and(x, a), cat(a, x), cat(x, a), and(none, x), cat(none, x), cat(x, none), or(all, x), star(and(none, x)),
				cat(times(300, 'a'), x), or(times(300, 'a'), x), cat(all, cat(a, cat(even(api.Concat, slices.Repeat([][]api.Node{dot}, 20)...), x))),
				nested(x, api.MaxDepth-1, api.Star), times(2000, x[0].Sign), not(times(2000, x[0].Sign)),
			} {
				refused(t, "a tree with a letter too many", k, l, api.ErrLetter)
			}
		}
	}
	// An expression with too large a derivative, by letters that are there, has one letter too many with it.
	for k := 1; k < 7; k++ {
		refused(t, "a tree with a letter too many", k, over, api.ErrLetter)
	}
	refused(t, "a letter too many", 7, or(over, letter('h')), api.ErrLetter)
}

// TestP901JustDeepEnough: trees of just MaxDepth.
func TestP901JustDeepEnough(t *testing.T) {
	has(t, "stars", 1, nested(a, api.MaxDepth-1, api.Star), 1)
	has(t, "complements", 2, nested(a, api.MaxDepth-1, api.Not), 3)
	lean := a
	for range api.MaxDepth - 1 {
		lean = cat(a, lean)
	}
	has(t, "a concatenation", 1, lean, 130)
	refused(t, "one letter more", 1, cat(a, lean), api.ErrDepth)
	refused(t, "a complement", 1, not(lean), api.ErrDepth)
}

func TestP1EveryListEndsWithoutPanic(t *testing.T) {
	d := dice(17)
	for length := range 40 {
		for range 40 {
			l := make([]api.Node, length)
			for i := range l {
				l[i] = api.Node{Kind: d.below(12) - 1}
				if l[i].Kind == api.Letter {
					l[i].Sign = 'a' + byte(d.below(9))
				}
			}
			k := d.below(11) - 1
			dfa.Derivs(k, l)
			dfa.Compile(k, l)
		}
	}
}

// someLists are trees and lists that are no trees.
func someLists() [][]api.Node {
	out := everyTree(3, none, empty, dot, a, b)
	out = append(out, star(cat(a, b)), not(star(cat(a, b))), cat(all, row("abab")), cat(star(a), star(b)), or(or(b, a), or(a, cat(a, b))), not(not(a)), cat(cat(a, b), cat(b, a)))
	out = append(out, times(198, 'a'), times(199, 'a'), full, over)
	return append(out, notTrees()...)
}

// answers are what both calls answer of a list.
type answers struct {
	trees  [][]api.Node
	words  []string
	auto   api.Auto
	errors [2]api.Errno
}

func everyAnswer(k int, l []api.Node) answers {
	var out answers
	out.trees, out.words, out.errors[0] = dfa.Derivs(k, l)
	out.auto, out.errors[1] = dfa.Compile(k, l)
	return out
}

func (a answers) same(b answers) bool {
	return sameTrees(a.trees, b.trees) && slices.Equal(a.words, b.words) && sameAuto(a.auto, b.auto) && a.errors == b.errors
}

// clone shares nothing with what it is made of.
func (a answers) clone() answers {
	out := answers{slices.Clone(a.trees), slices.Clone(a.words), api.Auto{Letters: a.auto.Letters, Next: slices.Clone(a.auto.Next), Accept: slices.Clone(a.auto.Accept)}, a.errors}
	for i := range out.trees {
		out.trees[i] = slices.Clone(out.trees[i])
	}
	for i := range out.words {
		out.words[i] = strings.Clone(out.words[i])
	}
	return out
}

func TestP1WhatIsHandedInIsNotChanged(t *testing.T) {
	for _, l := range someLists() {
		// Room behind the list, filled, so that a write there is seen.
		room := append(slices.Clone(l), slices.Repeat(letter('g'), 8)...)
		kept := slices.Clone(room)
		for _, k := range []int{0, 1, 3, 8} {
			everyAnswer(k, room[:len(l)])
			if !slices.Equal(room, kept) {
				t.Errorf("the list of %s, or the room behind it, was changed", brief(l))
			}
		}
	}
}

// spoil writes over a list and the room behind it.
func spoil[T any](l []T, with T) {
	l = l[:cap(l)]
	for i := range l {
		l[i] = with
	}
}

// TestP1AnswersAreNewMemory: writing over one list, with the room behind it, changes no other one.
func TestP1AnswersAreNewMemory(t *testing.T) {
	bad := api.Node{Kind: 77}
	for _, l := range someLists() {
		l := slices.Clone(l)
		kept := slices.Clone(l)
		one, two := everyAnswer(8, l), everyAnswer(8, l)
		should := one.clone()
		for i := range two.trees {
			spoil(two.trees[i], bad)
		}
		spoil(two.trees, nil)
		spoil(two.words, "spoilt")
		spoil(two.auto.Next, -7)
		spoil(two.auto.Accept, true)
		if !slices.Equal(l, kept) {
			t.Errorf("%s: an answer shares the list that was handed in", brief(kept))
		}
		spoil(l, bad)
		if !one.same(should) {
			t.Errorf("%s: an answer is shared", brief(kept))
		}
	}
}

// TestP1TreesShareNothing: one tree after the other is written over, each with the room behind it; all others stay.
func TestP1TreesShareNothing(t *testing.T) {
	for _, l := range someLists() {
		one := everyAnswer(8, l)
		should := one.clone()
		for i := range one.trees {
			spoil(one.trees[i], api.Node{Kind: 77})
			should.trees[i] = slices.Repeat([]api.Node{{Kind: 77}}, len(should.trees[i]))
			if !one.same(should) {
				t.Errorf("%s: tree %d shares memory with another one", brief(l), i)
				break
			}
		}
	}
}

func TestP1TheSameAnswerAgain(t *testing.T) {
	some := someLists()
	for i, l := range some {
		one := everyAnswer(3, l)
		everyAnswer(8, some[(i*7+3)%len(some)])
		if two := everyAnswer(3, l); !one.same(two) {
			t.Errorf("%s: another answer at the second time", brief(l))
		}
	}
}

// TestP1NilIsEmpty: both are no trees.
func TestP1NilIsEmpty(t *testing.T) {
	for _, l := range [][]api.Node{nil, {}, make([]api.Node, 0, 8), full[:0]} {
		refused(t, "the empty list", 2, l, api.ErrTree)
		refused(t, "the empty list", 0, l, api.ErrLetters)
	}
}
