package deriv_test

import (
	"slices"
	"strings"
	"testing"
	"unsafe"

	"eggbox/api"
	"eggbox/deriv"
)

// notTrees are lists of at most MaxNodes nodes that are no trees.
func notTrees() [][]api.Node {
	a, union, star := letter('a'), node(api.Union), node(api.Star)
	return [][]api.Node{
		nil, {}, {a, a}, {star}, {union}, {a, union}, {star, a}, {union, a, a}, {a, a, a, union}, {a, a, union, union},
		{node(0)}, {node(10)}, {node(-1)}, {letter('i')}, {letter('`')}, {letter(0)}, {{Kind: api.Any, Sign: 'a'}}, {a, {Kind: api.Not, Sign: 1}},
		{node(10), star}, {node(-1), a, union}, make([]api.Node, 4000), append(row(2000).list(), a),
	}
}

// tooGreat are lists of more than MaxNodes nodes, trees and others.
func tooGreat() [][]api.Node {
	return [][]api.Node{
		nested(a, 4000, api.Star).list(), row(2001).list(), left(api.Union, slices.Repeat([]plain{a}, 2001)...).list(),
		make([]api.Node, 4001), make([]api.Node, 9000), slices.Repeat(list(letter('a')), 4001),
	}
}

// answers are what all calls answer of a list.
type answers struct {
	deriv, by []api.Node
	classes   string
	errors    [3]api.Errno
}

func everyAnswer(l []api.Node, x byte, w string, k int) answers {
	var out answers
	out.deriv, out.errors[0] = deriv.Deriv(l, x)
	out.by, out.errors[1] = deriv.By(l, w)
	out.classes, out.errors[2] = deriv.Classes(k, l)
	return out
}

func (a answers) same(b answers) bool {
	return slices.Equal(a.deriv, b.deriv) && slices.Equal(a.by, b.by) && a.classes == b.classes && a.errors == b.errors
}

// refuses holds the calls to these errors, and to nothing beside them.
func refuses(t *testing.T, l []api.Node, x byte, w string, k int, should [3]api.Errno) {
	t.Helper()
	got := everyAnswer(l, x, w, k)
	if got.errors != should {
		t.Errorf("%v by %q and by %q, k %d: errors %v, should be %v", brief(l), x, short(w), k, got.errors, should)
	}
	got.errors = [3]api.Errno{}
	if !got.same(answers{}) {
		t.Errorf("%v: something stands beside an error", brief(l))
	}
}

// TestP701TheTreesErrorFirst: ahead of all that may be wrong with the letter and the word, but behind ErrLetters.
func TestP701TheTreesErrorFirst(t *testing.T) {
	for _, l := range notTrees() {
		refuses(t, l, 'a', "", 1, [3]api.Errno{api.ErrTree, api.ErrTree, api.ErrTree})
		refuses(t, l, 'a', "ab", 8, [3]api.Errno{api.ErrTree, api.ErrTree, api.ErrTree})
		refuses(t, l, 'i', "i", 0, [3]api.Errno{api.ErrTree, api.ErrTree, api.ErrLetters})
		refuses(t, l, 0, "ab\xff", 9, [3]api.Errno{api.ErrTree, api.ErrTree, api.ErrLetters})
	}
	for _, l := range tooGreat() {
		refuses(t, l, 'a', "", 1, [3]api.Errno{api.ErrSize, api.ErrSize, api.ErrSize})
		refuses(t, l, 'i', "iab", 8, [3]api.Errno{api.ErrSize, api.ErrSize, api.ErrSize})
		refuses(t, l, '`', "a`b", 9, [3]api.Errno{api.ErrSize, api.ErrSize, api.ErrLetters})
	}
}

// TestP702SeveralErrors: a letter that is none comes ahead of derivatives that are too great.
func TestP702SeveralErrors(t *testing.T) {
	for _, p := range []plain{over, not(full), star(row(2000)), manyStars(60, b), or(over, cat(a, all))} {
		refuses(t, p.list(), 'a', "a", 1, [3]api.Errno{api.ErrSize, api.ErrSize, api.ErrSize})
		refuses(t, p.list(), 'i', "ai", 0, [3]api.Errno{api.ErrLetter, api.ErrLetter, api.ErrLetters})
		refuses(t, p.list(), '`', "aa\x80", 9, [3]api.Errno{api.ErrLetter, api.ErrLetter, api.ErrLetters})
		refuses(t, p.list(), 'A', "A", 8, [3]api.Errno{api.ErrLetter, api.ErrLetter, api.ErrSize})
	}
}

func TestP1EveryListEndsWithoutPanic(t *testing.T) {
	d := dice(17)
	for length := range 60 {
		for range 40 {
			l := make([]api.Node, length)
			for i := range l {
				l[i] = api.Node{Kind: d.below(12) - 1}
				if l[i].Kind == api.Letter {
					l[i].Sign = 'a' + byte(d.below(9))
				}
			}
			everyAnswer(l, byte(d.below(256)), d.word(9, d.below(6)), d.below(10))
		}
	}
}

// someLists are trees and lists that are no trees.
func someLists() [][]api.Node {
	var out [][]api.Node
	for _, p := range append(everyTree(3, none, empty, dot, a, b), star(cat(a, b)), not(star(cat(a, b))), cat(star(a), b), cat(a, star(b)), full, over, manyStars(20, b), star(left(api.Concat, a, b, c))) {
		out = append(out, p.list())
	}
	return append(out, notTrees()...)
}

func TestP1WhatIsHandedInIsNotChanged(t *testing.T) {
	for _, l := range someLists() {
		// Room behind the list, filled, so that a write there is seen.
		room := append(slices.Clone(l), slices.Repeat(list(letter('g')), 8)...)
		kept := slices.Clone(room)
		for _, w := range []string{"", "a", "ab", "aba"} {
			text := []byte(w + "h")
			everyAnswer(room[:len(l)], 'a', unsafe.String(&text[0], len(w)), 3)
			if !slices.Equal(room, kept) || string(text) != w+"h" {
				t.Errorf("the list %v, the room behind it, or the word was changed", brief(l))
			}
		}
	}
}

// spoil writes over a list and the room behind it.
func spoil(l []api.Node) {
	l = l[:cap(l)]
	for i := range l {
		l[i] = node(77)
	}
}

// TestP1AnswersAreNewMemory: writing over one answer, and over the list that was handed in, changes no other one.
func TestP1AnswersAreNewMemory(t *testing.T) {
	for _, l := range someLists() {
		for _, w := range []string{"", "a", "ab"} {
			l := slices.Clone(l)
			kept := slices.Clone(l)
			one := everyAnswer(l, 'a', w, 3)
			two := everyAnswer(l, 'a', w, 3)
			should := answers{slices.Clone(one.deriv), slices.Clone(one.by), strings.Clone(one.classes), one.errors}
			spoil(two.deriv)
			spoil(two.by)
			if !slices.Equal(l, kept) {
				t.Errorf("%v: an answer shares the list that was handed in", brief(kept))
			}
			spoil(l)
			if !one.same(should) {
				t.Errorf("%v: an answer is shared", brief(kept))
			}
			spoil(one.deriv)
			if !slices.Equal(one.by, should.by) {
				t.Errorf("%v: two answers share memory", brief(kept))
			}
		}
	}
}

// TestP1ClassesAreNewMemory: two strings lie in different bytes. (Go keeps all strings of one byte in one place.)
func TestP1ClassesAreNewMemory(t *testing.T) {
	for k := 2; k <= 8; k++ {
		one, _ := deriv.Classes(k, a.list())
		two, _ := deriv.Classes(k, a.list())
		if one != two || unsafe.StringData(one) == unsafe.StringData(two) {
			t.Errorf("Classes(%d, a): %q and %q lie in one place, or are not the same", k, one, two)
		}
	}
}

func TestP1TheSameAnswerAgain(t *testing.T) {
	some := someLists()
	for i, l := range some {
		one := everyAnswer(l, 'b', "abba", 3)
		everyAnswer(some[(i*7+3)%len(some)], 'a', "babab", 8)
		two := everyAnswer(l, 'b', "abba", 3)
		if !one.same(two) {
			t.Errorf("%v: another answer at the second time", brief(l))
		}
	}
}

// TestP1NilIsEmpty: both are no trees.
func TestP1NilIsEmpty(t *testing.T) {
	for _, l := range [][]api.Node{nil, {}, make([]api.Node, 0, 8)} {
		refuses(t, l, 'a', "a", 2, [3]api.Errno{api.ErrTree, api.ErrTree, api.ErrTree})
	}
}
