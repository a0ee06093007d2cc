package match_test

import (
	"slices"
	"strings"
	"testing"

	"eggbox/api"
	"eggbox/bits"
	"eggbox/match"
)

// plain is an expression by its definition: a node with its parts beneath it.
type plain struct {
	node  api.Node
	parts []plain
}

func letter(sign byte) api.Node { return api.Node{Kind: api.Letter, Sign: sign} }

func node(kind int) api.Node { return api.Node{Kind: kind} }

func list(nodes ...api.Node) []api.Node { return nodes }

func leaf(n api.Node) plain { return plain{node: n} }

func join(kind int, parts ...plain) plain { return plain{node(kind), parts} }

func (p plain) list() []api.Node { return p.behind(nil) }

// behind is a list with the expression's own behind it.
func (p plain) behind(l []api.Node) []api.Node {
	for _, part := range p.parts {
		l = part.behind(l)
	}
	return append(l, p.node)
}

// The expressions that the tests speak of most.
var (
	none  = leaf(node(api.None))
	empty = leaf(node(api.Empty))
	dot   = leaf(node(api.Any))
	all   = join(api.Not, none)
	a     = leaf(letter('a'))
	b     = leaf(letter('b'))
	c     = leaf(letter('c'))
	h     = leaf(letter('h'))
)

// singles are the kinds with one part; forks those with two.
var (
	singles = []int{api.Star, api.Not}
	forks   = []int{api.Union, api.Inter, api.Concat}
)

func or(p, q plain) plain  { return join(api.Union, p, q) }
func and(p, q plain) plain { return join(api.Inter, p, q) }
func cat(p, q plain) plain { return join(api.Concat, p, q) }
func star(p plain) plain   { return join(api.Star, p) }
func not(p plain) plain    { return join(api.Not, p) }

// left and right are n times the part, joined by nodes of that kind, the first two first, or the last two.
func left(kind, n int, part plain) plain {
	out := part
	for range n - 1 {
		out = join(kind, out, part)
	}
	return out
}

func right(kind, n int, part plain) plain {
	out := part
	for range n - 1 {
		out = join(kind, part, out)
	}
	return out
}

// nested is the expression with so many nodes of one part above it, of these kinds in turn.
func nested(p plain, n int, kinds ...int) plain {
	for i := range n {
		p = join(kinds[i%len(kinds)], p)
	}
	return p
}

// everyTree is each expression of those leaves that has at most n nodes, where a leaf counts for one.
func everyTree(n int, leaves ...plain) []plain {
	out := make([][]plain, n+1)
	out[1] = leaves
	for size := 2; size <= n; size++ {
		for _, single := range singles {
			for _, part := range out[size-1] {
				out[size] = append(out[size], join(single, part))
			}
		}
		for _, fork := range forks {
			for first := 1; first < size-1; first++ {
				for _, p := range out[first] {
					for _, q := range out[size-1-first] {
						out[size] = append(out[size], join(fork, p, q))
					}
				}
			}
		}
	}
	return slices.Concat(out...)
}

// dice answers numbers that look thrown and are the same at each run.
type dice uint64

func (d *dice) below(n int) int {
	x := uint64(*d)
	x ^= x << 13
	x ^= x >> 7
	x ^= x << 17
	*d = dice(x)
	return int(x >> 11 % uint64(n))
}

// thrown is an expression of that many nodes.
func (d *dice) thrown(nodes int) plain {
	switch {
	case nodes == 1:
		return []plain{none, empty, dot, a, b, a, b, c}[d.below(8)]
	case nodes == 2 || d.below(4) == 0:
		return join(singles[d.below(2)], d.thrown(nodes-1))
	}
	first := 1 + d.below(nodes-2)
	return join(forks[d.below(3)], d.thrown(first), d.thrown(nodes-1-first))
}

// word is a word of that many letters, of the first k.
func (d *dice) word(k, letters int) string {
	out := make([]byte, letters)
	for i := range out {
		out[i] = 'a' + byte(d.below(k))
	}
	return string(out)
}

// samples are expressions of all kinds: all small ones, all of few parts that are not small themselves, and thrown ones.
func samples() []plain {
	out := everyTree(5, none, empty, dot, a, b)
	out = append(out, everyTree(3, all, a, c, cat(a, b), cat(all, b), or(a, empty), or(b, star(a)), and(not(a), not(b)), star(a), star(cat(a, b)), not(empty), star(dot))...)
	d := dice(88172645463325252)
	for nodes := 6; nodes < 40; nodes++ {
		for range 12 {
			out = append(out, d.thrown(nodes))
		}
	}
	return out
}

// words are all words over k letters of at most n letters, the shorter ones first, those of one length by their letters.
func words(k, n int) []string {
	out := []string{""}
	for at := 0; len(out[at]) < n; at++ {
		for l := range k {
			out = append(out, out[at]+string(rune('a'+l)))
		}
	}
	return out
}

func times(w string, n int) string { return strings.Repeat(w, n) }

// notTrees are lists of at most MaxNodes nodes that are no trees.
func notTrees() [][]api.Node {
	a, union, star := letter('a'), node(api.Union), node(api.Star)
	return [][]api.Node{
		nil, {}, {a, a}, {star}, {union}, {a, union}, {star, a}, {union, a, a}, {a, a, a, union}, {a, a, union, union},
		{node(0)}, {node(10)}, {node(-1)}, {letter('i')}, {letter('`')}, {letter(0)}, {{Kind: api.Any, Sign: 'a'}}, {a, {Kind: api.Not, Sign: 1}},
		{node(10), star}, {node(-1), a, union}, make([]api.Node, 4000), append(right(api.Concat, 2000, leaf(a)).list(), a),
	}
}

// tooGreat are lists of more than MaxNodes nodes, trees and others.
func tooGreat() [][]api.Node {
	return [][]api.Node{
		nested(a, 4000, api.Star).list(), right(api.Concat, 2001, a).list(), left(api.Union, 2001, a).list(),
		make([]api.Node, 4001), make([]api.Node, 9000), slices.Repeat(list(letter('a')), 4001),
	}
}

// is holds Member to an answer.
func is(t *testing.T, p plain, w string, should bool) {
	t.Helper()
	if got, e := match.Member(p.list(), w); got != should || e != api.OK {
		t.Errorf("Member(%v, %v): %t, %d; should be %t", brief(p.list()), short(w), got, e, should)
	}
}

// ends holds Ends to the set of a list of numbers.
func ends(t *testing.T, p plain, w string, i int, should []int) {
	t.Helper()
	want, _ := bits.Of(should)
	if got, e := match.Ends(p.list(), w, i); got != want || e != api.OK {
		t.Errorf("Ends(%v, %v, %d): %v, %d; should be %v", brief(p.list()), short(w), i, bits.List(got), e, should)
	}
}

// said holds Words to a list.
func said(t *testing.T, k int, p plain, n int, should []string) {
	t.Helper()
	if got, e := match.Words(k, p.list(), n); e != api.OK || !slices.Equal(got, should) {
		t.Errorf("Words(%d, %v, %d): %q, %d; should be %q", k, brief(p.list()), n, got[:min(len(got), 40)], e, should[:min(len(should), 40)])
	}
}

// alike holds two expressions to one answer, from all of the word's places on.
func alike(t *testing.T, p, q plain, w string) {
	t.Helper()
	for i := range len(w) + 1 {
		one, e1 := match.Ends(p.list(), w, i)
		two, e2 := match.Ends(q.list(), w, i)
		if one != two || e1 != api.OK || e2 != api.OK {
			t.Errorf("Ends of %v and of %v in %v from %d on: %v, %d and %v, %d", brief(p.list()), brief(q.list()), short(w), i, bits.List(one), e1, bits.List(two), e2)
		}
	}
}

// between is all numbers from i to j that are step apart.
func between(i, j, step int) []int {
	var out []int
	for ; i <= j; i += step {
		out = append(out, i)
	}
	return out
}

// brief and short are the beginning of a list and of a word, so that a failure of a great one can be read.
func brief(l []api.Node) []api.Node { return l[:min(len(l), 40)] }

func short(w string) string { return w[:min(len(w), 40)] }
