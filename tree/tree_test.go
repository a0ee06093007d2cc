package tree_test

import (
	"math"
	"testing"

	"eggbox/api"
	"eggbox/tree"
)

func TestP301NoTrees(t *testing.T) {
	for _, l := range notTrees() {
		everyRefusal(t, l, api.ErrTree)
	}
}

func TestP301TooManyNodes(t *testing.T) {
	everyRefusal(t, flat(4001), api.ErrSize)
	everyRefusal(t, flat(5000), api.ErrSize)
	// That a list is too long comes ahead of that it is no tree.
	everyRefusal(t, make([]api.Node, 4001), api.ErrSize)
	everyRefusal(t, append(flat(4000), letter('a')), api.ErrSize)
	everyRefusal(t, make([]api.Node, 100000), api.ErrSize)
}

func TestP301JustTheTreesAreTrees(t *testing.T) {
	nodes := append(append(list(node(0), node(10), letter('i'), api.Node{Kind: api.Any, Sign: 'a'}), leaves...), append(forks, singles...)...)
	byLength := [][][]api.Node{{nil}}
	for n := range 4 {
		var longer [][]api.Node
		for _, l := range byLength[n] {
			for _, more := range nodes {
				longer = append(longer, append(l[:len(l):len(l)], more))
			}
		}
		byLength = append(byLength, longer)
	}
	trees := everyTree(4)
	for n, lists := range byLength {
		are := map[[4]api.Node]int{}
		for _, p := range trees[n] {
			are[[4]api.Node(append(p.list(), make([]api.Node, 4-n)...))]++
		}
		found := 0
		for _, l := range lists {
			should := api.ErrTree
			if are[[4]api.Node(append(l[:n:n], make([]api.Node, 4-n)...))] > 0 {
				should = api.OK
				found++
			}
			if e := tree.Check(8, l); e != should {
				t.Errorf("Check of %v: %d, should be %d", l, e, should)
			}
			if _, e := tree.Depth(l); e != should {
				t.Errorf("Depth of %v: %d, should be %d", l, e, should)
			}
		}
		if found != len(trees[n]) {
			t.Errorf("%d of %d trees of %d nodes were tried", found, len(trees[n]), n)
		}
	}
}

func TestP302Check(t *testing.T) {
	for _, p := range samples() {
		l := p.list()
		for k := 1; k <= 8; k++ {
			should := api.OK
			switch {
			case p.depth() > 128:
				should = api.ErrDepth
			case p.greatest() >= 'a'+byte(k):
				should = api.ErrLetter
			}
			if e := tree.Check(k, l); e != should {
				t.Errorf("Check(%d, %v): %d, should be %d", k, brief(l), e, should)
			}
		}
	}
}

func TestP302Letters(t *testing.T) {
	for _, k := range []int{math.MinInt, -1, 0, 9, 10, 256 + 1, 1<<32 + 2, math.MaxInt} {
		for _, l := range [][]api.Node{nil, list(letter('a')), list(letter('h')), list(letter('i')), flat(4001), chain(api.Not, 128)} {
			if e := tree.Check(k, l); e != api.ErrLetters {
				t.Errorf("Check(%d, %v): %d", k, brief(l), e)
			}
		}
	}
	for k := 1; k <= 8; k++ {
		for i := range 8 {
			should := api.OK
			if i >= k {
				should = api.ErrLetter
			}
			a := letter('a')
			x := letter('a' + byte(i))
			for _, l := range [][]api.Node{{x}, {x, a, node(api.Union)}, {a, x, node(api.Concat)}, {a, x, node(api.Star), node(api.Inter), node(api.Not)}} {
				if e := tree.Check(k, l); e != should {
					t.Errorf("Check(%d, %v): %d, should be %d", k, l, e, should)
				}
			}
		}
	}
}

func TestP302DepthAheadOfLetter(t *testing.T) {
	for _, kind := range []int{api.Star, api.Not} {
		for nodes, should := range map[int]api.Errno{127: api.OK, 128: api.OK, 129: api.ErrDepth, 130: api.ErrDepth, 4000: api.ErrDepth, 4001: api.ErrSize} {
			if e := tree.Check(1, chain(kind, nodes-1)); e != should {
				t.Errorf("Check of a chain of %d: %d, should be %d", nodes, e, should)
			}
		}
	}
	deep := chain(api.Not, 128)
	deep[0] = letter('h')
	if e := tree.Check(1, deep); e != api.ErrDepth {
		t.Errorf("a tree that is too deep, with a letter too many: %d", e)
	}
	if e := tree.Check(1, deep[:128]); e != api.ErrLetter {
		t.Errorf("a tree that is just not too deep, with a letter too many: %d", e)
	}
	deep[0] = letter('i')
	if e := tree.Check(1, deep); e != api.ErrTree {
		t.Errorf("a list that is too deep, and no tree: %d", e)
	}
	for _, kind := range []int{api.Union, api.Inter, api.Concat} {
		// a a Union a Union ..: the first part is the deep one; a a .. Union Union: the second one.
		left, right := list(letter('a')), list(letter('a'))
		for n := 2; n <= 130; n++ {
			left = append(left, letter('a'), node(kind))
			right = append(append(list(letter('a')), right...), node(kind))
			should := api.OK
			if n > 128 {
				should = api.ErrDepth
			}
			if one, two := tree.Check(1, left), tree.Check(1, right); one != should || two != should {
				t.Errorf("kind %d, depth %d: %d, %d; should be %d", kind, n, one, two, should)
			}
		}
	}
}

func TestP302Nodes(t *testing.T) {
	for nodes, should := range map[int]api.Errno{1: api.OK, 2: api.OK, 3: api.OK, 3999: api.OK, 4000: api.OK, 4001: api.ErrSize, 4002: api.ErrSize} {
		l := flat(nodes)
		if len(l) != nodes {
			t.Fatalf("flat(%d) has %d nodes", nodes, len(l))
		}
		if e := tree.Check(1, l); e != should {
			t.Errorf("Check of %d nodes: %d, should be %d", nodes, e, should)
		}
	}
}

func TestP303DepthAndStars(t *testing.T) {
	for _, p := range samples() {
		l := p.list()
		if d, e := tree.Depth(l); d != p.depth() || e != api.OK {
			t.Errorf("Depth(%v): %d, %d; should be %d", brief(l), d, e, p.depth())
		}
		if s, e := tree.Stars(l); s != p.stars() || e != api.OK {
			t.Errorf("Stars(%v): %d, %d; should be %d", brief(l), s, e, p.stars())
		}
	}
}

func TestP303Edges(t *testing.T) {
	for nodes := range 4000 {
		if nodes > 130 && nodes < 3997 {
			continue
		}
		nots, e1 := tree.Depth(chain(api.Not, nodes))
		stars, e2 := tree.Stars(chain(api.Star, nodes))
		none, e3 := tree.Stars(chain(api.Not, nodes))
		if nots != nodes+1 || stars != nodes || none != 0 || e1 != api.OK || e2 != api.OK || e3 != api.OK {
			t.Errorf("chains of %d: %d, %d, %d; %d, %d, %d", nodes, nots, stars, none, e1, e2, e3)
		}
	}
	// The deepest way is not the one with the most stars.
	a, star, not := letter('a'), node(api.Star), node(api.Not)
	for _, l := range [][]api.Node{{a, star, star, a, not, star, not, not, node(api.Concat)}, {a, not, star, not, not, a, star, star, node(api.Concat)}} {
		d, _ := tree.Depth(l)
		s, _ := tree.Stars(l)
		if d != 6 || s != 2 {
			t.Errorf("Depth, Stars of %v: %d, %d", l, d, s)
		}
	}
}

func TestP303Examples(t *testing.T) {
	l := list(letter('a'), letter('b'), node(api.Star), node(api.Concat))
	if d, e := tree.Depth(l); d != 3 || e != api.OK {
		t.Errorf("Depth: %d, %d", d, e)
	}
	if s, e := tree.Stars(l); s != 1 || e != api.OK {
		t.Errorf("Stars: %d, %d", s, e)
	}
	if e := tree.Check(1, list(letter('b'))); e != api.ErrLetter {
		t.Errorf("Check(1, b): %d", e)
	}
	for _, l := range [][]api.Node{{letter('a'), letter('b')}, {node(api.Star)}, {letter('i')}, {{Kind: api.Any, Sign: 'a'}}} {
		if e := tree.Check(2, l); e != api.ErrTree {
			t.Errorf("Check(2, %v): %d", l, e)
		}
	}
}
