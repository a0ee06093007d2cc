package tree_test

import (
	"slices"
	"testing"

	"eggbox/api"
	"eggbox/tree"
)

// lists are the parts of an expression as lists.
func (p plain) lists() [][]api.Node {
	var out [][]api.Node
	for _, part := range p.parts {
		out = append(out, part.list())
	}
	return out
}

func TestP304Parts(t *testing.T) {
	for _, p := range samples() {
		root, parts, e := tree.Parts(p.list())
		if root != p.node || e != api.OK || !slices.EqualFunc(parts, p.lists(), slices.Equal) {
			t.Errorf("Parts(%v): %v, %v, %d", brief(p.list()), root, parts, e)
		}
	}
}

func TestP304Join(t *testing.T) {
	for _, p := range samples() {
		whole, e := tree.Join(p.node, p.lists()...)
		want(t, "Join", whole, e, p.list())
	}
}

func TestP304JoinRefusals(t *testing.T) {
	a, union, star := letter('a'), node(api.Union), node(api.Star)
	good, bad, long := list(a), list(a, a), flat(4001)
	join := func(what string, should api.Errno, root api.Node, parts ...[]api.Node) {
		t.Helper()
		out, e := tree.Join(root, parts...)
		refused(t, what, len(out) == 0, e, should)
	}
	for _, n := range notNodes() {
		join("no node", api.ErrTree, n)
		join("no node", api.ErrTree, n, good)
		join("no node", api.ErrTree, n, good, good)
		join("no node, a part too long", api.ErrTree, n, long, long)
		join("no node, too many parts", api.ErrTree, n, good, good, good)
	}
	for kind := api.None; kind <= api.Not; kind++ {
		root := node(kind)
		if kind == api.Letter {
			root = a
		}
		has := map[int]int{api.Union: 2, api.Inter: 2, api.Concat: 2, api.Star: 1, api.Not: 1}[kind]
		for n := range 6 {
			if n != has {
				join("a wrong number of parts", api.ErrArg, root, slices.Repeat([][]api.Node{good}, n)...)
				join("a wrong number of parts that are no trees", api.ErrArg, root, slices.Repeat([][]api.Node{bad}, n)...)
				join("a wrong number of parts that are too long", api.ErrArg, root, slices.Repeat([][]api.Node{long}, n)...)
			}
		}
		join("many parts", api.ErrArg, root, make([][]api.Node, 100000)...)
	}
	for _, l := range notTrees() {
		join("a part that is no tree", api.ErrTree, star, l)
		join("a first part that is no tree", api.ErrTree, union, l, good)
		join("a second part that is no tree", api.ErrTree, union, good, l)
		join("no tree, then one too long", api.ErrTree, union, l, long)
		join("one too long, then no tree", api.ErrSize, union, long, l)
	}
	join("the whole too great, and a part no tree", api.ErrTree, union, flat(4000), bad)
	join("the whole too great, and a part no tree", api.ErrTree, union, bad, flat(4000))
}

func TestP304JoinSizes(t *testing.T) {
	for _, c := range []struct {
		first, second int
		should        api.Errno
	}{{1999, 1999, api.OK}, {1999, 2000, api.OK}, {3998, 1, api.OK}, {1, 3998, api.OK},
		{2000, 2000, api.ErrSize}, {3999, 1, api.ErrSize}, {1, 3999, api.ErrSize}, {4000, 4000, api.ErrSize}, {4000, 1, api.ErrSize}} {
		for _, fork := range forks {
			first, second := flat(c.first), flat(c.second)
			whole, e := tree.Join(fork, first, second)
			if c.should == api.OK {
				want(t, "Join", whole, e, append(append(slices.Clone(first), second...), fork))
			} else {
				refused(t, "Join", len(whole) == 0, e, c.should)
			}
		}
	}
	for _, single := range singles {
		whole, e := tree.Join(single, flat(3999))
		want(t, "Join", whole, e, append(flat(3999), single))
		whole, e = tree.Join(single, flat(4000))
		refused(t, "Join", len(whole) == 0, e, api.ErrSize)
		// A depth is no matter to Join.
		whole, e = tree.Join(single, chain(api.Not, 3998))
		want(t, "Join", whole, e, append(chain(api.Not, 3998), single))
	}
}

func TestP304Examples(t *testing.T) {
	l := list(letter('a'), letter('b'), node(api.Star), node(api.Concat))
	root, parts, e := tree.Parts(l)
	if root != node(api.Concat) || e != api.OK || len(parts) != 2 || !slices.Equal(parts[0], l[:1]) || !slices.Equal(parts[1], l[1:3]) {
		t.Errorf("Parts: %v, %v, %d", root, parts, e)
	}
	out, e := tree.Join(node(api.Union), list(letter('a')))
	refused(t, "Join(Union, a)", len(out) == 0, e, api.ErrArg)
	root, parts, e = tree.Parts(list(letter('a')))
	if root != letter('a') || len(parts) != 0 || e != api.OK {
		t.Errorf("Parts(a): %v, %v, %d", root, parts, e)
	}
	out, e = tree.Join(letter('a'))
	want(t, "Join(a)", out, e, list(letter('a')))
}

func TestP307JoinOfParts(t *testing.T) {
	for _, p := range samples() {
		l := p.list()
		root, parts, e := tree.Parts(l)
		if e != api.OK {
			t.Fatalf("Parts(%v): %d", brief(l), e)
		}
		whole, e := tree.Join(root, parts...)
		want(t, "Join of Parts", whole, e, l)
		again, same, e := tree.Parts(whole)
		if again != root || e != api.OK || !slices.EqualFunc(same, parts, slices.Equal) {
			t.Errorf("Parts of Join: %v, %v, %d", again, same, e)
		}
	}
}
