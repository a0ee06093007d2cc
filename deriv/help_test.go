package deriv_test

import (
	"slices"
	"testing"

	"eggbox/api"
	"eggbox/deriv"
	"eggbox/syntax"
)

// plain is an expression by its definition: a node with its parts beneath it.
type plain struct {
	node  api.Node
	parts []plain
}

func letter(sign byte) api.Node { return api.Node{Kind: api.Letter, Sign: sign} }

func node(kind int) api.Node { return api.Node{Kind: kind} }

func list(nodes ...api.Node) []api.Node { return nodes }

func leaf(n api.Node) plain { return plain{node: n} }

func join(kind int, parts ...plain) plain { return plain{node(kind), parts} }

func (p plain) list() []api.Node { return p.behind(nil) }

// behind is a list with the expression's own behind it.
func (p plain) behind(l []api.Node) []api.Node {
	for _, part := range p.parts {
		l = part.behind(l)
	}
	return append(l, p.node)
}

// size is how many nodes the expression's list has.
func (p plain) size() int {
	out := 1
	for _, part := range p.parts {
		out += part.size()
	}
	return out
}

// The expressions that the tests speak of most.
var (
	none  = leaf(node(api.None))
	empty = leaf(node(api.Empty))
	dot   = leaf(node(api.Any))
	all   = join(api.Not, none)
	a     = leaf(letter('a'))
	b     = leaf(letter('b'))
	c     = leaf(letter('c'))
	h     = leaf(letter('h'))
)

// singles are the kinds with one part; forks those with two.
var (
	singles = []int{api.Star, api.Not}
	forks   = []int{api.Union, api.Inter, api.Concat}
)

func or(p, q plain) plain  { return join(api.Union, p, q) }
func and(p, q plain) plain { return join(api.Inter, p, q) }
func cat(p, q plain) plain { return join(api.Concat, p, q) }
func star(p plain) plain   { return join(api.Star, p) }
func not(p plain) plain    { return join(api.Not, p) }

// left and right are the parts joined by nodes of that kind, the first two first, or the last two.
func left(kind int, parts ...plain) plain {
	out := parts[0]
	for _, p := range parts[1:] {
		out = join(kind, out, p)
	}
	return out
}

func right(kind int, parts ...plain) plain {
	last := len(parts) - 1
	out := parts[last]
	for _, p := range slices.Backward(parts[:last]) {
		out = join(kind, p, out)
	}
	return out
}

// row is that many letters a, one behind the other: in normal form, with twice as many nodes but one.
func row(letters int) plain { return right(api.Concat, slices.Repeat([]plain{a}, letters)...) }

// nested is the expression with so many nodes of one part above it, of these kinds in turn.
func nested(p plain, n int, kinds ...int) plain {
	for i := range n {
		p = join(kinds[i%len(kinds)], p)
	}
	return p
}

// everyTree is each expression of those leaves that has at most n nodes, where a leaf counts for one.
func everyTree(n int, leaves ...plain) []plain {
	out := make([][]plain, n+1)
	out[1] = leaves
	for size := 2; size <= n; size++ {
		for _, single := range singles {
			for _, part := range out[size-1] {
				out[size] = append(out[size], join(single, part))
			}
		}
		for _, fork := range forks {
			for first := 1; first < size-1; first++ {
				for _, p := range out[first] {
					for _, q := range out[size-1-first] {
						out[size] = append(out[size], join(fork, p, q))
					}
				}
			}
		}
	}
	return slices.Concat(out...)
}

// dice answers numbers that look thrown and are the same at each run.
type dice uint64

func (d *dice) below(n int) int {
	x := uint64(*d)
	x ^= x << 13
	x ^= x >> 7
	x ^= x << 17
	*d = dice(x)
	return int(x >> 11 % uint64(n))
}

// thrown is an expression of that many nodes.
func (d *dice) thrown(nodes int) plain {
	switch {
	case nodes == 1:
		return []plain{none, empty, dot, a, b, a, b, c}[d.below(8)]
	case nodes == 2 || d.below(4) == 0:
		return join(singles[d.below(2)], d.thrown(nodes-1))
	}
	first := 1 + d.below(nodes-2)
	return join(forks[d.below(3)], d.thrown(first), d.thrown(nodes-1-first))
}

// rich is an expression of that many nodes whose normal form has most of them: no leaves but letters, no node of one part above another one.
func (d *dice) rich(nodes int) plain {
	switch {
	case nodes <= 2:
		return leaf(letter('a' + byte(d.below(3))))
	case nodes > 3 && d.below(3) == 0:
		return join(singles[d.below(2)], d.fork(nodes-1))
	}
	return d.fork(nodes)
}

func (d *dice) fork(nodes int) plain {
	first := 1 + d.below(nodes-2)
	return join(forks[d.below(3)], d.rich(first), d.rich(nodes-1-first))
}

// word is a word of that many letters, of the first k.
func (d *dice) word(k, letters int) string {
	out := make([]byte, letters)
	for i := range out {
		out[i] = 'a' + byte(d.below(k))
	}
	return string(out)
}

// samples are expressions of all kinds: all small ones, all of few parts that are not small themselves, and thrown ones.
func samples() []plain {
	out := everyTree(4, none, empty, dot, a, b)
	out = append(out, everyTree(3, all, a, c, cat(a, b), cat(all, b), or(a, empty), or(b, star(a)), and(not(a), not(b)), star(a), star(cat(a, b)), not(empty), star(dot), not(cat(star(a), b)))...)
	d := dice(88172645463325252)
	for nodes := 5; nodes < 60; nodes++ {
		for range 4 {
			out = append(out, d.thrown(nodes), d.rich(nodes))
		}
	}
	return out
}

// words are all words over k letters of at most n letters, the shorter ones first, those of one length by their letters.
func words(k, n int) []string {
	out := []string{""}
	for at := 0; len(out[at]) < n; at++ {
		for l := range k {
			out = append(out, out[at]+string(rune('a'+l)))
		}
	}
	return out
}

// parsed is the tree of an expression's text over eight letters.
func parsed(t *testing.T, text string) []api.Node {
	t.Helper()
	l, at, e := syntax.Parse(8, text)
	if e != api.OK {
		t.Fatalf("Parse(%q): %d at %d", text, e, at)
	}
	return l
}

// want holds a tree that was answered against the one that it should be.
func want(t *testing.T, what string, got []api.Node, e api.Errno, should []api.Node) {
	t.Helper()
	if e != api.OK || !slices.Equal(got, should) {
		t.Errorf("%s: %v, %d; should be %v", what, brief(got), e, brief(should))
	}
}

// refused holds that a call answered that error, and nothing beside it.
func refused(t *testing.T, what string, nothing bool, e, should api.Errno) {
	t.Helper()
	if e != should || !nothing {
		t.Errorf("%s: error %d, should be %d; nothing beside it: %t", what, e, should, nothing)
	}
}

// gives holds Deriv to an expression.
func gives(t *testing.T, p plain, x byte, should plain) {
	t.Helper()
	d, e := deriv.Deriv(p.list(), x)
	if e != api.OK || !slices.Equal(d, should.list()) {
		t.Errorf("Deriv(%v, %q): %v, %d; should be %v", brief(p.list()), x, brief(d), e, brief(should.list()))
	}
}

// tooLarge holds Deriv to ErrSize.
func tooLarge(t *testing.T, p plain, x byte) {
	t.Helper()
	d, e := deriv.Deriv(p.list(), x)
	if e != api.ErrSize || len(d) != 0 {
		t.Errorf("Deriv(%v, %q): %d nodes, %d; should be ErrSize", brief(p.list()), x, len(d), e)
	}
}

// brief and short are the beginning of a list and of a word, so that a failure of a great one can be read.
func brief(l []api.Node) []api.Node { return l[:min(len(l), 40)] }

func short(w string) string { return w[:min(len(w), 40)] }
