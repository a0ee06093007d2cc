package syntax_test

import (
	"slices"
	"strings"
	"testing"
	"unsafe"

	"eggbox/api"
	"eggbox/syntax"
)

// spoil writes over a list and all the room behind it.
func spoil(l []api.Node) {
	l = l[:cap(l)]
	for i := range l {
		l[i] = node(77)
	}
}

func TestP1WhatIsHandedInIsNotChanged(t *testing.T) {
	lists := append(notTrees(), make([]api.Node, 4001))
	for _, p := range samples() {
		lists = append(lists, p.list())
	}
	for _, l := range lists {
		// Room behind the list, filled, so that a write there is seen.
		whole := append(slices.Clone(l), slices.Repeat(list(letter('g')), 8)...)
		kept := slices.Clone(whole)
		for _, k := range []int{0, 1, 8, 9} {
			syntax.Print(k, whole[:len(l)])
		}
		if !slices.Equal(whole, kept) {
			t.Errorf("the list %v, or the room behind it, was changed", brief(l))
		}
	}
}

func TestP1AnswersAreNewMemory(t *testing.T) {
	for _, text := range append(thrownTexts(3, 200), "a", "1", "a|b", "(a-b)?") {
		one, _, _ := syntax.Parse(3, text)
		two, _, _ := syntax.Parse(3, text)
		kept := slices.Clone(two)
		s, _ := syntax.Print(3, one)
		should := strings.Clone(s)
		spoil(one)
		if !slices.Equal(two, kept) {
			t.Errorf("%q: one answer changed with another", text)
		}
		reads(t, 3, text, kept)
		if s != should {
			t.Errorf("%q: what was printed changed with its list", text)
		}
	}
}

func TestP1TextsAreNewMemory(t *testing.T) {
	for _, l := range [][]api.Node{{node(api.None)}, {node(api.Empty)}, {node(api.Any)}, {letter('a'), letter('b'), node(api.Union)}} {
		one, _ := syntax.Print(2, l)
		two, _ := syntax.Print(2, l)
		if unsafe.StringData(one) == unsafe.StringData(two) {
			t.Errorf("two prints as %q share memory", one)
		}
	}
}

func TestP1TheSameAnswerAgain(t *testing.T) {
	for _, text := range append(thrownTexts(3, 200), "", "a|", "a)b", "((a)", strings.Repeat("a", 129), strings.Repeat("a", 1001)) {
		l, at, e := syntax.Parse(3, text)
		s, wrong := syntax.Print(3, l)
		syntax.Parse(0, text)
		syntax.Parse(3, "((((")
		syntax.Print(3, nil)
		syntax.Print(1, list(letter('h')))
		again, place, same := syntax.Parse(3, text)
		if !slices.Equal(again, l) || place != at || same != e {
			t.Errorf("Parse(3, %q): %v, %d, %d; then %v, %d, %d", short(text), l, at, e, again, place, same)
		}
		if s2, same := syntax.Print(3, l); s2 != s || same != wrong {
			t.Errorf("Print of %q: %q, %d; then %q, %d", short(text), s, wrong, s2, same)
		}
	}
}

func TestP1NilIsEmpty(t *testing.T) {
	unprinted(t, 2, nil, api.ErrTree)
	unprinted(t, 2, []api.Node{}, api.ErrTree)
	unprinted(t, 0, nil, api.ErrLetters)
}
