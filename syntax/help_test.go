package syntax_test

import (
	"slices"
	"strings"
	"testing"

	"eggbox/api"
	"eggbox/syntax"
)

// plain is an expression by its definition: a node with its parts beneath it.
type plain struct {
	node  api.Node
	parts []plain
}

func letter(sign byte) api.Node { return api.Node{Kind: api.Letter, Sign: sign} }

func node(kind int) api.Node { return api.Node{Kind: kind} }

func list(nodes ...api.Node) []api.Node { return nodes }

func leaf(n api.Node) plain { return plain{node: n} }

func join(kind int, parts ...plain) plain { return plain{node(kind), parts} }

func (p plain) list() []api.Node {
	var out []api.Node
	for _, part := range p.parts {
		out = append(out, part.list()...)
	}
	return append(out, p.node)
}

func (p plain) depth() int {
	most := 0
	for _, part := range p.parts {
		most = max(most, part.depth())
	}
	return most + 1
}

// text is what an expression is printed as: the document's sentence on brackets, word for word.
func (p plain) text() string {
	var parts []string
	for place, part := range p.parts {
		s := part.text()
		if inBrackets(part.node.Kind, p.node.Kind, place) {
			s = "(" + s + ")"
		}
		parts = append(parts, s)
	}
	switch p.node.Kind {
	case api.None:
		return "0"
	case api.Empty:
		return "1"
	case api.Any:
		return "."
	case api.Star:
		return parts[0] + "*"
	case api.Not:
		return "!" + parts[0]
	case api.Union:
		return strings.Join(parts, "|")
	case api.Inter:
		return strings.Join(parts, "&")
	case api.Concat:
		return strings.Join(parts, "")
	}
	return string([]byte{p.node.Sign})
}

func inBrackets(part, whole, place int) bool {
	second := place == 1
	switch part {
	case api.Union:
		return whole == api.Union && second || slices.Contains([]int{api.Inter, api.Concat, api.Not, api.Star}, whole)
	case api.Inter:
		return whole == api.Inter && second || slices.Contains([]int{api.Concat, api.Not, api.Star}, whole)
	case api.Concat:
		return whole == api.Concat && second || slices.Contains([]int{api.Not, api.Star}, whole)
	case api.Not:
		return whole == api.Star
	}
	return false
}

// leaves are nodes without parts; singles kinds with one; forks those with two.
var (
	leaves  = []api.Node{node(api.None), node(api.Empty), node(api.Any), letter('a'), letter('b')}
	singles = []int{api.Star, api.Not}
	forks   = []int{api.Union, api.Inter, api.Concat}
)

// everyTree is each expression of at most n nodes, of those leaves, by the number of its nodes.
func everyTree(n int, leaves ...api.Node) [][]plain {
	out := make([][]plain, n+1)
	for _, l := range leaves {
		out[1] = append(out[1], leaf(l))
	}
	for size := 2; size <= n; size++ {
		for _, single := range singles {
			for _, part := range out[size-1] {
				out[size] = append(out[size], join(single, part))
			}
		}
		for _, fork := range forks {
			for first := 1; first < size-1; first++ {
				for _, p := range out[first] {
					for _, q := range out[size-1-first] {
						out[size] = append(out[size], join(fork, p, q))
					}
				}
			}
		}
	}
	return out
}

// dice answers numbers that look thrown and are the same at each run.
type dice uint64

func (d *dice) below(n int) int {
	x := uint64(*d)
	x ^= x << 13
	x ^= x >> 7
	x ^= x << 17
	*d = dice(x)
	return int(x >> 11 % uint64(n))
}

// thrown is an expression of that many nodes.
func (d *dice) thrown(nodes int) plain {
	switch {
	case nodes == 1:
		if d.below(3) > 0 {
			return leaf(letter('a' + byte(d.below(8))))
		}
		return leaf(leaves[d.below(3)])
	case nodes == 2 || d.below(3) == 0:
		return join(singles[d.below(2)], d.thrown(nodes-1))
	}
	first := 1 + d.below(nodes-2)
	return join(forks[d.below(3)], d.thrown(first), d.thrown(nodes-1-first))
}

// samples are expressions of all kinds: all small ones, and thrown ones.
func samples() []plain {
	out := slices.Concat(everyTree(4, leaves...)...)
	out = append(out, slices.Concat(everyTree(6, letter('a'))...)...)
	d := dice(88172645463325252)
	for nodes := 5; nodes < 120; nodes++ {
		out = append(out, d.thrown(nodes), d.thrown(nodes), d.thrown(nodes))
	}
	return out
}

// reads holds that a text is read as that list.
func reads(t *testing.T, k int, text string, should []api.Node) {
	t.Helper()
	l, at, e := syntax.Parse(k, text)
	if e != api.OK || at != 0 || !slices.Equal(l, should) {
		t.Errorf("Parse(%d, %q): %v, %d, %d; should be %v", k, short(text), brief(l), at, e, brief(should))
	}
}

// refuses holds that a text is refused so, and nothing is answered beside it.
func refuses(t *testing.T, k int, text string, place int, should api.Errno) {
	t.Helper()
	l, at, e := syntax.Parse(k, text)
	if e != should || at != place || len(l) != 0 {
		t.Errorf("Parse(%d, %q): %v, %d, %d; should be error %d at %d", k, short(text), brief(l), at, e, should, place)
	}
}

// prints holds that a list is printed as that text.
func prints(t *testing.T, k int, l []api.Node, should string) {
	t.Helper()
	if s, e := syntax.Print(k, l); s != should || e != api.OK {
		t.Errorf("Print(%d, %v): %q, %d; should be %q", k, brief(l), short(s), e, short(should))
	}
}

// unprinted holds that a list is refused so, and nothing is answered beside it.
func unprinted(t *testing.T, k int, l []api.Node, should api.Errno) {
	t.Helper()
	if s, e := syntax.Print(k, l); s != "" || e != should {
		t.Errorf("Print(%d, %v): %q, %d; should be error %d", k, brief(l), short(s), e, should)
	}
}

// brief and short are the beginning of a list and of a text, so that a failure of a great one can be read.
func brief(l []api.Node) []api.Node { return l[:min(len(l), 40)] }

func short(text string) string { return text[:min(len(text), 60)] }
