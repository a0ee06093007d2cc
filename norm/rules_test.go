package norm_test

import (
	"slices"
	"testing"

	"eggbox/api"
	"eggbox/norm"
)

// spoil writes over a list and all the room behind it.
func spoil(l []api.Node) {
	l = l[:cap(l)]
	for i := range l {
		l[i] = node(77)
	}
}

// answers are what all calls answer of two lists.
type answers struct {
	trees  [][]api.Node
	is     bool
	errors []api.Errno
}

func everyAnswer(l, m []api.Node) answers {
	var out answers
	add := func(l []api.Node, e api.Errno) {
		out.trees, out.errors = append(out.trees, l), append(out.errors, e)
	}
	add(norm.Normal(l))
	add(norm.Union(l, m))
	add(norm.Inter(l, m))
	add(norm.Concat(l, m))
	add(norm.Star(l))
	add(norm.Not(l))
	for _, kind := range []int{api.Union, api.Inter, api.Star} {
		members, e := norm.Members(kind, l)
		out.trees, out.errors = append(out.trees, members...), append(out.errors, e)
	}
	is, e := norm.Is(l)
	out.is, out.errors = is, append(out.errors, e)
	return out
}

// someLists are trees, in normal form and not, and lists that are no trees.
func someLists() [][]api.Node {
	out := lists(slices.Concat(everyTree(3, none, empty, dot, all, a, b)...))
	out = append(out, lists([]plain{left(api.Union, d, c, b, a), right(api.Inter, a, b, c, d), left(api.Concat, a, all, all, b), not(not(a)), row(1000, 3), row(2000, 3), not(row(2000, 4)), row(2001, 3)})...)
	return append(out, notTrees()...)
}

func TestP1WhatIsHandedInIsNotChanged(t *testing.T) {
	for _, l := range someLists() {
		// Room behind the lists, filled, so that a write there is seen.
		one := append(slices.Clone(l), slices.Repeat(list(letter('g')), 8)...)
		two := append(list(letter('b'), letter('a'), node(api.Union)), one...)
		kept, keptTwo := slices.Clone(one), slices.Clone(two)
		everyAnswer(one[:len(l)], two[:3])
		everyAnswer(two[:3], one[:len(l)])
		everyAnswer(one[:len(l)], one[:len(l)])
		if !slices.Equal(one, kept) || !slices.Equal(two, keptTwo) {
			t.Errorf("the list %v, or the room behind it, was changed", brief(l))
		}
	}
}

func TestP1AnswersAreNewMemory(t *testing.T) {
	m := list(letter('b'), node(api.Star))
	for _, l := range someLists() {
		l := slices.Clone(l)
		kept := slices.Clone(l)
		should := everyAnswer(l, m).trees
		for i := range should {
			should[i] = slices.Clone(should[i])
		}
		// Each answer alone is spoilt: neither the lists nor one of the other answers may change with it.
		for i := range should {
			got := everyAnswer(l, m).trees
			spoil(got[i])
			got[i] = should[i]
			if !slices.EqualFunc(got, should, slices.Equal) {
				t.Errorf("%v: answer %d is shared with another", brief(l), i)
			}
			if !slices.Equal(l, kept) {
				t.Fatalf("%v: answer %d is shared with the list", brief(kept), i)
			}
		}
		got := everyAnswer(l, m).trees
		spoil(l)
		if !slices.EqualFunc(got, should, slices.Equal) {
			t.Errorf("%v: an answer changed with the list", brief(kept))
		}
	}
	if !slices.Equal(m, list(letter('b'), node(api.Star))) {
		t.Errorf("an answer is shared with the second list: %v", m)
	}
}

func TestP1MembersShareNothing(t *testing.T) {
	abcd := left(api.Union, d, c, b, a).list()
	for i := range 4 {
		members, _ := norm.Members(api.Union, abcd)
		for j := range members {
			members[j] = append(members[j], letter('h'))[:len(members[j])]
		}
		spoil(members[i])
		for j, sign := range []byte("abcd") {
			if j != i && !slices.Equal(members[j], list(letter(sign))) {
				t.Errorf("member %d changed with member %d", j, i)
			}
		}
	}
}

func TestP1TheSameAnswerAgain(t *testing.T) {
	some := someLists()
	for i, l := range some {
		m := some[(i*7+3)%len(some)]
		one := everyAnswer(l, m)
		everyAnswer(m, l)
		two := everyAnswer(l, m)
		if !slices.EqualFunc(one.trees, two.trees, slices.Equal) || one.is != two.is || !slices.Equal(one.errors, two.errors) {
			t.Errorf("of %v and %v: another answer at the second time", brief(l), brief(m))
		}
	}
}

// refuses holds all calls to an error of two lists; of one list it is that of the first.
func refuses(t *testing.T, l, m []api.Node, first, both api.Errno) {
	t.Helper()
	for _, call := range pairs {
		out, e := call(l, m)
		refused(t, "two lists", len(out) == 0, e, both)
	}
	if first == api.OK {
		return
	}
	for _, call := range lone {
		out, e := call(l)
		refused(t, "one list", len(out) == 0, e, first)
	}
	out, e := norm.Normal(l)
	refused(t, "Normal", len(out) == 0, e, first)
	is, e := norm.Is(l)
	refused(t, "Is", !is, e, first)
}

func TestP501TheTreesErrorFirst(t *testing.T) {
	good, long := list(letter('a'), node(api.Star)), row(2001, 3).list()
	full := row(2000, 3).list()
	for _, bad := range notTrees() {
		refuses(t, bad, good, api.ErrTree, api.ErrTree)
		refuses(t, good, bad, api.OK, api.ErrTree)
		refuses(t, bad, bad, api.ErrTree, api.ErrTree)
		refuses(t, bad, long, api.ErrTree, api.ErrTree)
		refuses(t, long, bad, api.ErrSize, api.ErrSize)
		// Joined they would be too great: the tree's error comes ahead of that.
		refuses(t, bad, full, api.ErrTree, api.ErrTree)
		refuses(t, full, bad, api.OK, api.ErrTree)
	}
	for _, long := range [][]api.Node{long, make([]api.Node, 4001), not(not(row(2000, 3))).list()} {
		refuses(t, long, good, api.ErrSize, api.ErrSize)
		refuses(t, good, long, api.OK, api.ErrSize)
		refuses(t, long, long, api.ErrSize, api.ErrSize)
		refuses(t, list(node(api.None)), long, api.OK, api.ErrSize)
		refuses(t, list(node(api.None), node(api.Not)), long, api.OK, api.ErrSize)
	}
}

// TestP501TheOtherTreeIsWrong: no shorter way is taken where one tree would tell the answer.
func TestP501TheOtherTreeIsWrong(t *testing.T) {
	for _, p := range []plain{none, empty, all, dot} {
		refuses(t, p.list(), list(node(api.Star)), api.OK, api.ErrTree)
		refuses(t, list(node(api.Star)), p.list(), api.ErrTree, api.ErrTree)
	}
}

func TestP501DepthIsNoError(t *testing.T) {
	deep := a
	for range 1999 {
		deep = star(not(deep))
	}
	joins(t, not(deep), api.Not, deep)
	joins(t, deep, api.Star, deep)
	joins(t, or(b, deep.parts[0]), api.Union, deep.parts[0], b)
	joins(t, and(b, deep.parts[0]), api.Inter, b, deep.parts[0])
	joins(t, cat(b, deep.parts[0]), api.Concat, b, deep.parts[0])
}
