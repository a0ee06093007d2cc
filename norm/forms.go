package norm

import (
	"slices"

	"eggbox/api"
)

// forms: normal forms, one behind the other: those that are no one's parts so far. They stay where they are while nodes are put behind them, so that a tree that is in normal form is gone through without being written anew at each node.
type forms struct {
	nodes []api.Node
	sizes []int // at each place how many nodes the tree has that ends there
}

// span: a tree's place among the nodes: from, and ahead of to.
type span struct{ from, to int }

func (f *forms) list(s span) []api.Node { return f.nodes[s.from:s.to] }

func (f *forms) root(s span) int { return f.nodes[s.to-1].Kind }

// endingAt: the tree whose root is ahead of that place.
func (f *forms) endingAt(to int) span { return span{to - f.sizes[to-1], to} }

// parts: of a tree with two of them.
func (f *forms) parts(s span) (first, second span) { return f.pair(s.to - 1) }

// last: the last two forms.
func (f *forms) last() (x, y span) { return f.pair(len(f.nodes)) }

func (f *forms) pair(to int) (first, second span) {
	second = f.endingAt(to)
	return f.endingAt(second.from), second
}

// put adds a node whose parts are that many of the last forms.
func (f *forms) put(n api.Node, parts int) {
	size := 1
	for range parts {
		size += f.sizes[len(f.sizes)-size]
	}
	f.nodes = append(f.nodes, n)
	f.sizes = append(f.sizes, size)
}

// repeat adds a form that is there once more.
func (f *forms) repeat(s span) {
	f.nodes = append(f.nodes, f.nodes[s.from:s.to]...)
	f.sizes = append(f.sizes, f.sizes[s.from:s.to]...)
}

// drop takes nodes out; what is behind them moves up.
func (f *forms) drop(s span) {
	f.nodes = slices.Delete(f.nodes, s.from, s.to)
	f.sizes = slices.Delete(f.sizes, s.from, s.to)
}

// members: of a form, in order, if it has any.
func (f *forms) members(kind int, s span) []span {
	var out []span
	for f.root(s) == kind {
		rest, member := f.parts(s)
		out = append(out, member)
		s = rest
	}
	out = append(out, s)
	slices.Reverse(out)
	return out
}

// greatest: the last one of a form's members.
func (f *forms) greatest(kind int, s span) span {
	if f.root(s) == kind {
		_, s = f.parts(s)
	}
	return s
}
