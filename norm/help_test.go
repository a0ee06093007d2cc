package norm_test

import (
	"slices"
	"testing"

	"eggbox/api"
)

// plain is an expression by its definition: a node with its parts beneath it.
type plain struct {
	node  api.Node
	parts []plain
}

func letter(sign byte) api.Node { return api.Node{Kind: api.Letter, Sign: sign} }

func node(kind int) api.Node { return api.Node{Kind: kind} }

func list(nodes ...api.Node) []api.Node { return nodes }

func leaf(n api.Node) plain { return plain{node: n} }

func join(kind int, parts ...plain) plain { return plain{node(kind), parts} }

func (p plain) list() []api.Node { return p.behind(nil) }

// behind is a list with the expression's own behind it.
func (p plain) behind(l []api.Node) []api.Node {
	for _, part := range p.parts {
		l = part.behind(l)
	}
	return append(l, p.node)
}

// The expressions that the tests speak of most.
var (
	none  = leaf(node(api.None))
	empty = leaf(node(api.Empty))
	dot   = leaf(node(api.Any))
	all   = join(api.Not, none)
	a     = leaf(letter('a'))
	b     = leaf(letter('b'))
	c     = leaf(letter('c'))
	d     = leaf(letter('d'))
)

// singles are the kinds with one part; forks those with two.
var (
	singles = []int{api.Star, api.Not}
	forks   = []int{api.Union, api.Inter, api.Concat}
)

func or(p, q plain) plain  { return join(api.Union, p, q) }
func and(p, q plain) plain { return join(api.Inter, p, q) }
func cat(p, q plain) plain { return join(api.Concat, p, q) }
func star(p plain) plain   { return join(api.Star, p) }
func not(p plain) plain    { return join(api.Not, p) }

// left and right are the parts joined by nodes of that kind, the first two first, or the last two.
func left(kind int, parts ...plain) plain {
	out := parts[0]
	for _, p := range parts[1:] {
		out = join(kind, out, p)
	}
	return out
}

func right(kind int, parts ...plain) plain {
	last := len(parts) - 1
	out := parts[last]
	for _, p := range slices.Backward(parts[:last]) {
		out = join(kind, p, out)
	}
	return out
}

// everyTree is each expression that has, beside those leaves, at most n nodes and leaves in all, by that number.
func everyTree(n int, leaves ...plain) [][]plain {
	out := make([][]plain, n+1)
	out[1] = leaves
	for size := 2; size <= n; size++ {
		for _, single := range singles {
			for _, part := range out[size-1] {
				out[size] = append(out[size], join(single, part))
			}
		}
		for _, fork := range forks {
			for first := 1; first < size-1; first++ {
				for _, p := range out[first] {
					for _, q := range out[size-1-first] {
						out[size] = append(out[size], join(fork, p, q))
					}
				}
			}
		}
	}
	return out
}

// dice answers numbers that look thrown and are the same at each run.
type dice uint64

func (d *dice) below(n int) int {
	x := uint64(*d)
	x ^= x << 13
	x ^= x >> 7
	x ^= x << 17
	*d = dice(x)
	return int(x >> 11 % uint64(n))
}

// thrown is an expression of that many nodes, of few letters and of the other leaves, so that parts are often equal.
func (d *dice) thrown(nodes int) plain {
	switch {
	case nodes == 1:
		return []plain{none, empty, dot, a, b, a, b, c}[d.below(8)]
	case nodes == 2 || d.below(4) == 0:
		return join(singles[d.below(2)], d.thrown(nodes-1))
	}
	first := 1 + d.below(nodes-2)
	return join(forks[d.below(3)], d.thrown(first), d.thrown(nodes-1-first))
}

// samples are expressions of all kinds: all small ones, all of few parts that are not small themselves, and thrown ones.
func samples() []plain {
	out := slices.Concat(everyTree(5, none, empty, dot, a, b)...)
	out = append(out, slices.Concat(everyTree(4, all, a, cat(a, b), cat(all, b), or(a, b), or(b, star(a)), and(a, b), and(not(a), not(b)), star(a), not(a), star(dot))...)...)
	d := dice(88172645463325252)
	for nodes := 6; nodes < 130; nodes++ {
		for range 6 {
			out = append(out, d.thrown(nodes))
		}
	}
	return out
}

// row is a concatenation of that many letters, leaning to the right: in normal form, with twice as many nodes but one. Which letters they are hangs on the seed.
func row(letters int, seed uint64) plain {
	d := dice(seed)
	var parts []plain
	for range letters {
		parts = append(parts, leaf(letter('a'+byte(d.below(8)))))
	}
	return right(api.Concat, parts...)
}

// notTrees are lists of at most MaxNodes nodes that are no trees.
func notTrees() [][]api.Node {
	a, union, star := letter('a'), node(api.Union), node(api.Star)
	return [][]api.Node{
		nil, {}, {a, a}, {star}, {union}, {a, union}, {star, a}, {union, a, a}, {a, a, a, union}, {a, a, union, union},
		{node(0)}, {node(10)}, {node(-1)}, {letter('i')}, {letter(0)}, {{Kind: api.Any, Sign: 'a'}}, {a, {Kind: api.Not, Sign: 1}},
		{node(10), star}, {node(-1), a, union}, make([]api.Node, 4000), append(row(2000, 7).list(), a),
	}
}

// want holds a tree that was answered against the one that it should be.
func want(t *testing.T, what string, got []api.Node, e api.Errno, should []api.Node) {
	t.Helper()
	if e != api.OK || !slices.Equal(got, should) {
		t.Errorf("%s: %v, %d; should be %v", what, brief(got), e, brief(should))
	}
}

// refused holds that a call answered that error, and nothing beside it.
func refused(t *testing.T, what string, nothing bool, e, should api.Errno) {
	t.Helper()
	if e != should || !nothing {
		t.Errorf("%s: error %d, should be %d; nothing beside it: %t", what, e, should, nothing)
	}
}

// brief is the beginning of a list, so that a failure of a great tree can be read.
func brief(l []api.Node) []api.Node { return l[:min(len(l), 40)] }
