package dfa_test

import (
	"slices"
	"strings"
	"testing"

	"eggbox/api"
	"eggbox/dfa"
	"eggbox/syntax"
)

func letter(sign byte) []api.Node { return []api.Node{{Kind: api.Letter, Sign: sign}} }

// join is the tree of a node of that kind with those parts.
func join(kind int, parts ...[]api.Node) []api.Node {
	return append(slices.Concat(parts...), api.Node{Kind: kind})
}

// The expressions that the tests speak of most.
var (
	none  = join(api.None)
	empty = join(api.Empty)
	dot   = join(api.Any)
	all   = join(api.Not, none)
	a     = letter('a')
	b     = letter('b')
	c     = letter('c')
)

// singles are the kinds with one part; forks those with two.
var (
	singles = []int{api.Star, api.Not}
	forks   = []int{api.Union, api.Inter, api.Concat}
)

func or(p, q []api.Node) []api.Node  { return join(api.Union, p, q) }
func and(p, q []api.Node) []api.Node { return join(api.Inter, p, q) }
func cat(p, q []api.Node) []api.Node { return join(api.Concat, p, q) }
func star(p []api.Node) []api.Node   { return join(api.Star, p) }
func not(p []api.Node) []api.Node    { return join(api.Not, p) }

// even is all parts joined by nodes of that kind, as flat as may be: the parts in their order, the tree's depth the logarithm of their number.
func even(kind int, parts ...[]api.Node) []api.Node {
	if len(parts) == 1 {
		return parts[0]
	}
	half := len(parts) / 2
	return join(kind, even(kind, parts[:half]...), even(kind, parts[half:]...))
}

// row is the expression of a word that is not empty.
func row(w string) []api.Node {
	var parts [][]api.Node
	for i := range len(w) {
		parts = append(parts, letter(w[i]))
	}
	return even(api.Concat, parts...)
}

// times is that many of a letter, one behind the other.
func times(n int, sign byte) []api.Node { return row(strings.Repeat(string(rune(sign)), n)) }

// nested is the expression with so many nodes of one part above it, of these kinds in turn.
func nested(p []api.Node, n int, kinds ...int) []api.Node {
	p = slices.Clone(p)
	for i := range n {
		p = append(p, api.Node{Kind: kinds[i%len(kinds)]})
	}
	return p
}

// everyTree is each expression of those leaves that has at most n nodes, where a leaf counts for one.
func everyTree(n int, leaves ...[]api.Node) [][]api.Node {
	out := make([][][]api.Node, n+1)
	out[1] = leaves
	for size := 2; size <= n; size++ {
		for _, single := range singles {
			for _, part := range out[size-1] {
				out[size] = append(out[size], join(single, part))
			}
		}
		for _, fork := range forks {
			for first := 1; first < size-1; first++ {
				for _, p := range out[first] {
					for _, q := range out[size-1-first] {
						out[size] = append(out[size], join(fork, p, q))
					}
				}
			}
		}
	}
	return slices.Concat(out...)
}

// dice answers numbers that look thrown and are the same at each run.
type dice uint64

func (d *dice) below(n int) int {
	x := uint64(*d)
	x ^= x << 13
	x ^= x >> 7
	x ^= x << 17
	*d = dice(x)
	return int(x >> 11 % uint64(n))
}

// thrown is an expression of that many nodes over k letters.
func (d *dice) thrown(k, nodes int) []api.Node {
	switch {
	case nodes == 1 && d.below(3) == 0:
		return [][]api.Node{none, empty, dot}[d.below(3)]
	case nodes == 1:
		return letter('a' + byte(d.below(k)))
	case nodes == 2 || d.below(4) == 0:
		return join(singles[d.below(2)], d.thrown(k, nodes-1))
	}
	first := 1 + d.below(nodes-2)
	return join(forks[d.below(3)], d.thrown(k, first), d.thrown(k, nodes-1-first))
}

// rich is an expression of about that many nodes over k letters that has many derivatives: no leaves but letters, and no intersections but such as say something.
func (d *dice) rich(k, nodes int) []api.Node {
	if nodes <= 2 {
		return letter('a' + byte(d.below(k)))
	}
	if d.below(4) == 0 {
		return star(d.rich(k, nodes-1))
	}
	first := 1 + d.below(nodes-2)
	p, q := d.rich(k, first), d.rich(k, nodes-1-first)
	switch d.below(8) {
	case 0:
		return and(not(p), star(q))
	case 1:
		return and(cat(all, p), cat(star(q), all))
	case 2, 3:
		return or(p, q)
	}
	return cat(p, q)
}

// word is a word of that many letters, of the first k.
func (d *dice) word(k, letters int) string {
	out := make([]byte, letters)
	for i := range out {
		out[i] = 'a' + byte(d.below(k))
	}
	return string(out)
}

// sample is an expression, and over how many letters it is asked.
type sample struct {
	k    int
	tree []api.Node
}

// small are all small expressions over few letters, and such of a few parts that are not small themselves.
func small() []sample {
	var out []sample
	for _, t := range everyTree(4, none, empty, dot, a) {
		out = append(out, sample{1, t})
	}
	parts := [][]api.Node{all, a, cat(a, b), cat(all, b), or(a, empty), star(b), star(cat(a, b)), not(cat(star(a), b)), cat(dot, dot)}
	for _, t := range append(everyTree(3, none, empty, dot, a, b), everyTree(3, parts...)...) {
		out = append(out, sample{2, t}, sample{3, t})
	}
	return append(out, sample{8, cat(a, star(b))}, sample{8, star(letter('h'))}, sample{8, cat(all, row("hah"))}, sample{8, not(row("abcdefgh"))})
}

// thrown are expressions that look thrown, over all numbers of letters.
func thrown() []sample {
	d := dice(88172645463325252)
	var out []sample
	for nodes := 3; nodes < 24; nodes++ {
		for k := 1; k <= 8; k++ {
			out = append(out, sample{k, d.thrown(k, nodes)}, sample{k, d.rich(k, nodes)})
		}
	}
	for nodes := 24; nodes < 48; nodes += 2 {
		for k := 1; k <= 3; k++ {
			out = append(out, sample{k, d.rich(k, nodes)})
		}
	}
	return out
}

// great are thrown expressions that have up to some hundred derivatives, or too many.
func great() []sample {
	d := dice(271828182)
	var out []sample
	for nodes := 60; nodes < 120; nodes += 3 {
		for k := 1; k <= 2; k++ {
			out = append(out, sample{k, d.rich(k, nodes)})
		}
	}
	return out
}

func samples() []sample { return append(small(), thrown()...) }

// words are all words over k letters of at most n letters, the shorter ones first, those of one length by their letters.
func words(k, n int) []string {
	out := []string{""}
	for at := 0; len(out[at]) < n; at++ {
		for l := range k {
			out = append(out, out[at]+string(rune('a'+l)))
		}
	}
	return out
}

// someWords are the words over k letters up to a length at which they are not yet too many.
func someWords(k int) []string { return words(k, [...]int{0, 12, 6, 4, 3, 3, 2, 2, 2}[k]) }

// parsed is the tree of an expression's text over k letters.
func parsed(t *testing.T, k int, text string) []api.Node {
	t.Helper()
	l, at, e := syntax.Parse(k, text)
	if e != api.OK {
		t.Fatalf("Parse(%d, %q): %d at %d", k, text, e, at)
	}
	return l
}

// refused holds both calls to an error, and to nothing beside it.
func refused(t *testing.T, what string, k int, l []api.Node, should api.Errno) {
	t.Helper()
	trees, words, e := dfa.Derivs(k, l)
	if e != should || len(trees) != 0 || len(words) != 0 {
		t.Errorf("Derivs of %s, k %d: %d trees, %d words, error %d; should be refused by %d", what, k, len(trees), len(words), e, should)
	}
	m, e := dfa.Compile(k, l)
	if e != should || m.Letters != 0 || len(m.Next) != 0 || len(m.Accept) != 0 {
		t.Errorf("Compile of %s, k %d: %d states, error %d; should be refused by %d", what, k, len(m.Accept), e, should)
	}
}

// has holds both calls to that many trees.
func has(t *testing.T, what string, k int, l []api.Node, should int) {
	t.Helper()
	trees, words, e := dfa.Derivs(k, l)
	if e != api.OK || len(trees) != should || len(words) != should {
		t.Errorf("Derivs of %s, k %d: %d trees, %d words, error %d; should be %d trees", what, k, len(trees), len(words), e, should)
	}
	m, e := dfa.Compile(k, l)
	if e != api.OK || len(m.Accept) != should || len(m.Next) != should*k || m.Letters != k {
		t.Errorf("Compile of %s, k %d: %d letters, %d states, error %d; should be %d states", what, k, m.Letters, len(m.Accept), e, should)
	}
}

func sameAuto(a, b api.Auto) bool {
	return a.Letters == b.Letters && slices.Equal(a.Next, b.Next) && slices.Equal(a.Accept, b.Accept)
}

func sameTrees(a, b [][]api.Node) bool { return slices.EqualFunc(a, b, slices.Equal) }

// find is the place of a tree on a list; -1, if it is not there.
func find(trees [][]api.Node, d []api.Node) int {
	return slices.IndexFunc(trees, func(t []api.Node) bool { return slices.Equal(t, d) })
}

// brief is an expression as a message may show it.
func brief(l []api.Node) string {
	if text, e := syntax.Print(8, l); e == api.OK && len(text) < 100 {
		return text
	}
	return "a list that is long, or no tree"
}
