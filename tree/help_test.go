package tree_test

import (
	"math"
	"slices"
	"testing"

	"eggbox/api"
	"eggbox/tree"
)

// plain is an expression by its definition: a node with its parts beneath it. The tests hold package tree against it.
type plain struct {
	node  api.Node
	parts []plain
}

func letter(sign byte) api.Node { return api.Node{Kind: api.Letter, Sign: sign} }

func node(kind int) api.Node { return api.Node{Kind: kind} }

func list(nodes ...api.Node) []api.Node { return nodes }

func (p plain) list() []api.Node {
	var out []api.Node
	for _, part := range p.parts {
		out = append(out, part.list()...)
	}
	return append(out, p.node)
}

func (p plain) depth() int {
	most := 0
	for _, part := range p.parts {
		most = max(most, part.depth())
	}
	return most + 1
}

func (p plain) stars() int {
	most := 0
	for _, part := range p.parts {
		most = max(most, part.stars())
	}
	if p.node.Kind == api.Star {
		most++
	}
	return most
}

func (p plain) reverse() plain {
	out := plain{node: p.node}
	for _, part := range p.parts {
		out.parts = append(out.parts, part.reverse())
	}
	if p.node.Kind == api.Concat {
		slices.Reverse(out.parts)
	}
	return out
}

func (p plain) rename(to string) plain {
	out := plain{node: p.node}
	if p.node.Kind == api.Letter {
		out.node.Sign = to[p.node.Sign-'a']
	}
	for _, part := range p.parts {
		out.parts = append(out.parts, part.rename(to))
	}
	return out
}

// greatest is the greatest letter of an expression; 0, if it has none.
func (p plain) greatest() byte {
	out := byte(0)
	if p.node.Kind == api.Letter {
		out = p.node.Sign
	}
	for _, part := range p.parts {
		out = max(out, part.greatest())
	}
	return out
}

// leaves are nodes without parts; singles those with one; forks those with two.
var (
	leaves  = []api.Node{node(api.None), node(api.Empty), node(api.Any), letter('a'), letter('b'), letter('h')}
	singles = []api.Node{node(api.Star), node(api.Not)}
	forks   = []api.Node{node(api.Union), node(api.Inter), node(api.Concat)}
)

// everyTree is each expression of at most n nodes, of the nodes above, by the number of its nodes.
func everyTree(n int) [][]plain {
	out := make([][]plain, n+1)
	for _, leaf := range leaves {
		out[1] = append(out[1], plain{node: leaf})
	}
	for size := 2; size <= n; size++ {
		for _, single := range singles {
			for _, part := range out[size-1] {
				out[size] = append(out[size], plain{single, []plain{part}})
			}
		}
		for _, fork := range forks {
			for first := 1; first < size-1; first++ {
				for _, p := range out[first] {
					for _, q := range out[size-1-first] {
						out[size] = append(out[size], plain{fork, []plain{p, q}})
					}
				}
			}
		}
	}
	return out
}

// dice answers numbers that look thrown and are the same at each run.
type dice uint64

func (d *dice) below(n int) int {
	x := uint64(*d)
	x ^= x << 13
	x ^= x >> 7
	x ^= x << 17
	*d = dice(x)
	return int(x >> 11 % uint64(n))
}

// thrown is an expression of that many nodes.
func (d *dice) thrown(nodes int) plain {
	switch {
	case nodes == 1:
		if d.below(3) > 0 {
			return plain{node: letter('a' + byte(d.below(8)))}
		}
		return plain{node: leaves[d.below(3)]}
	case nodes == 2 || d.below(3) == 0:
		return plain{singles[d.below(2)], []plain{d.thrown(nodes - 1)}}
	}
	first := 1 + d.below(nodes-2)
	return plain{forks[d.below(3)], []plain{d.thrown(first), d.thrown(nodes - 1 - first)}}
}

// samples are expressions of all kinds: all small ones, and thrown ones, up to the greatest.
func samples() []plain {
	out := slices.Concat(everyTree(4)...)
	d := dice(88172645463325252)
	for nodes := 5; nodes < 60; nodes++ {
		out = append(out, d.thrown(nodes), d.thrown(nodes))
	}
	return append(out, d.thrown(500), d.thrown(3000), d.thrown(3999), d.thrown(4000))
}

// chain is the letter a, with n of that node behind it, one the part of the next one.
func chain(kind, n int) []api.Node {
	out := list(letter('a'))
	for range n {
		out = append(out, node(kind))
	}
	return out
}

// flat is a tree of that many nodes that is not deep.
func flat(nodes int) []api.Node {
	if nodes%2 == 0 {
		return append(flat(nodes-1), node(api.Not))
	}
	if nodes == 1 {
		return list(letter('a'))
	}
	first := nodes / 2
	if first%2 == 0 {
		first--
	}
	return append(append(flat(first), flat(nodes-1-first)...), node(api.Concat))
}

// notNodes are no nodes, each by one thing alone.
func notNodes() []api.Node {
	out := list(node(0), node(10), node(-1), node(11), node(256+api.Any), node(math.MinInt), node(math.MaxInt),
		api.Node{Kind: 0, Sign: 'a'}, api.Node{Kind: 10, Sign: 'a'})
	for _, sign := range []byte{0, 1, 'A', 'a' - 1, 'h' + 1, 'i', 'z', 255} {
		out = append(out, letter(sign))
	}
	for kind := api.None; kind <= api.Not; kind++ {
		if kind != api.Letter {
			out = append(out, api.Node{Kind: kind, Sign: 'a'}, api.Node{Kind: kind, Sign: 1}, api.Node{Kind: kind, Sign: 255})
		}
	}
	return out
}

// notTrees are lists of at most MaxNodes nodes that are no trees.
func notTrees() [][]api.Node {
	a, b := letter('a'), letter('b')
	star, union, concat := node(api.Star), node(api.Union), node(api.Concat)
	out := [][]api.Node{
		nil, {}, {a, b}, {star}, {node(api.Not)}, {union}, {node(api.Inter)}, {concat}, {a, union}, {a, concat, b},
		{star, a}, {a, b, star}, {a, b, union, union}, {a, b, b, union}, {a, union, b, b, union}, {union, a, b},
		{a, a, a, a}, {a, star, union, b}, make([]api.Node, 1), make([]api.Node, 4000),
		append(flat(3998), a), append(flat(3999), a), append(flat(3999), union),
	}
	for _, n := range notNodes() {
		out = append(out, list(n), list(n, star), list(a, n), list(n, a, union), list(a, b, union, n), list(a, n, union))
	}
	return out
}

// want holds a tree that was answered against the one that it should be.
func want(t *testing.T, what string, got []api.Node, e api.Errno, should []api.Node) {
	t.Helper()
	if e != api.OK || !slices.Equal(got, should) {
		t.Errorf("%s: %v, %d; should be %v", what, brief(got), e, brief(should))
	}
}

// refused holds that a call answered that error, and nothing beside it.
func refused(t *testing.T, what string, nothing bool, e, should api.Errno) {
	t.Helper()
	if e != should {
		t.Errorf("%s: error %d, should be %d", what, e, should)
	}
	if !nothing {
		t.Errorf("%s: error %d, and something beside it", what, e)
	}
}

// brief is the beginning of a list, so that a failure of a great tree can be read.
func brief(l []api.Node) []api.Node { return l[:min(len(l), 40)] }

// everyRefusal holds all calls that answer the tree's error to that error of one list.
func everyRefusal(t *testing.T, l []api.Node, should api.Errno) {
	t.Helper()
	refused(t, "Check", true, tree.Check(8, l), should)
	n, e := tree.Depth(l)
	refused(t, "Depth", n == 0, e, should)
	n, e = tree.Stars(l)
	refused(t, "Stars", n == 0, e, should)
	root, parts, e := tree.Parts(l)
	refused(t, "Parts", root == api.Node{} && len(parts) == 0, e, should)
	out, e := tree.Join(node(api.Star), l)
	refused(t, "Join", len(out) == 0, e, should)
	out, e = tree.Reverse(l)
	refused(t, "Reverse", len(out) == 0, e, should)
	out, e = tree.Rename(l, "abcdefgh")
	refused(t, "Rename", len(out) == 0, e, should)
	if t.Failed() {
		t.Fatalf("at the list %v of %d nodes", brief(l), len(l))
	}
}
