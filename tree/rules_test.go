package tree_test

import (
	"slices"
	"testing"

	"eggbox/api"
	"eggbox/tree"
)

// room is a list with room behind it, filled, so that a write there is seen.
func room(l []api.Node) (cut, whole []api.Node) {
	whole = append(slices.Clone(l), slices.Repeat(list(letter('g')), 8)...)
	return whole[:len(l)], whole
}

// spoil writes over a list and all the room behind it.
func spoil(l []api.Node) {
	l = l[:cap(l)]
	for i := range l {
		l[i] = node(77)
	}
}

func TestP1WhatIsHandedInIsNotChanged(t *testing.T) {
	a, b, star, concat := letter('a'), letter('b'), node(api.Star), node(api.Concat)
	for _, l := range [][]api.Node{{a}, {a, b, star, concat}, {a, b, concat, b, a, concat, concat}, {a, b}, {letter('i')}, flat(4000), flat(4001)} {
		cut, whole := room(l)
		kept := slices.Clone(whole)
		tree.Check(2, cut)
		tree.Depth(cut)
		tree.Stars(cut)
		tree.Parts(cut)
		tree.Join(star, cut)
		tree.Join(concat, cut, cut)
		tree.Compare(cut, cut)
		tree.Reverse(cut)
		tree.Rename(cut, "hgfedcba")
		tree.Rename(cut, "hg")
		if !slices.Equal(whole, kept) {
			t.Errorf("the list %v, or the room behind it, was changed", brief(l))
		}
	}
	parts := [][]api.Node{{a}, {b}, {a, star}}
	tree.Join(concat, parts[:2]...)
	tree.Join(concat, parts...)
	if !slices.EqualFunc(parts, [][]api.Node{{a}, {b}, {a, star}}, slices.Equal) {
		t.Errorf("the list of the parts was changed: %v", parts)
	}
}

func TestP1AnswersAreNewMemory(t *testing.T) {
	for _, p := range slices.Concat(everyTree(3)...) {
		l := p.list()
		_, parts, _ := tree.Parts(l)
		joined, _ := tree.Join(p.node, p.lists()...)
		turned, _ := tree.Reverse(l)
		named, _ := tree.Rename(l, "abcdefgh")
		answers := append(slices.Clone(parts), joined, turned, named)
		for i := range answers {
			kept := make([][]api.Node, len(answers))
			for j := range answers {
				kept[j] = slices.Clone(answers[j])
			}
			spoil(answers[i])
			for j := range answers {
				if j != i && !slices.Equal(answers[j], kept[j]) {
					t.Fatalf("%v: answer %d changed with answer %d", l, j, i)
				}
			}
			if !slices.Equal(l, p.list()) {
				t.Fatalf("%v: the tree changed with answer %d", p.list(), i)
			}
		}
	}
}

func TestP1PartsAreNotKeptByJoin(t *testing.T) {
	one, two := list(letter('a'), node(api.Star)), list(letter('b'))
	whole, _ := tree.Join(node(api.Union), one, two)
	spoil(one)
	spoil(two)
	want(t, "Join", whole, api.OK, list(letter('a'), node(api.Star), letter('b'), node(api.Union)))
	// One list as both parts: each of them is copied.
	same := list(letter('c'))
	whole, e := tree.Join(node(api.Concat), same, same)
	spoil(same)
	want(t, "Join", whole, e, list(letter('c'), letter('c'), node(api.Concat)))
}

func TestP1TheSameAnswerAgain(t *testing.T) {
	for _, p := range slices.Concat(everyTree(4)...) {
		l := p.list()
		one, _ := tree.Reverse(l)
		tree.Join(node(api.Star), l)
		tree.Rename(l, "hhhhhhhh")
		tree.Check(0, nil)
		two, e := tree.Reverse(l)
		want(t, "Reverse again", two, e, one)
	}
}
