package deriv

import (
	"slices"

	"eggbox/api"
	"eggbox/norm"
)

// form: a normal form. A tree in it is told by the place of its root.
type form struct {
	nodes  []api.Node
	begins []int // at each place where the tree begins whose root stands there
}

// step: a derivative that is made: of which tree, and of those of which trees.
type step struct {
	root  int
	named []int
}

// derivative: of a normal form, by a letter.
func derivative(n []api.Node, letter byte) ([]api.Node, api.Errno) {
	f := form{n, begins(n)}
	made := make([][]api.Node, len(n))
	for _, s := range slices.Backward(f.way()) {
		var parts [][]api.Node
		for _, root := range s.named {
			parts = append(parts, made[root])
			made[root] = nil
		}
		d, e := f.rule(s.root, letter, parts)
		if e != api.OK {
			return nil, e
		}
		made[s.root] = d
	}
	return made[len(n)-1], api.OK
}

func begins(n []api.Node) []int {
	out := make([]int, len(n))
	for root, x := range n {
		out[root] = root
		switch x.Kind {
		case api.Union, api.Inter, api.Concat:
			out[root] = out[out[root-1]-1]
		case api.Star, api.Not:
			out[root] = out[root-1]
		}
	}
	return out
}

// way: the steps to the form's own derivative, each ahead of those that it needs: a list in their place of calls within calls, as a tree may be as deep as it has nodes.
func (f form) way() []step {
	last := len(f.nodes) - 1
	out := []step{{last, f.named(last)}}
	for i := 0; i < len(out); i++ {
		for _, root := range out[i].named {
			out = append(out, step{root, f.named(root)})
		}
	}
	return out
}

// tree: the one with that root.
func (f form) tree(root int) []api.Node { return f.nodes[f.begins[root] : root+1] }

// first: the root of a tree's first part, where it has two.
func (f form) first(root int) int { return f.begins[root-1] - 1 }

// named: the roots of the trees of whose derivatives a tree's own one is made. Of a row of nodes of one kind all parts are named at once: what has many of them would else be written anew for each one.
func (f form) named(root int) []int {
	switch f.nodes[root].Kind {
	case api.Union, api.Inter:
		return f.members(root)
	case api.Concat:
		return f.row(root)
	case api.Star, api.Not:
		return []int{root - 1}
	}
	return nil
}

// rule: the derivative of a tree, of the derivatives that it names.
func (f form) rule(root int, letter byte, named [][]api.Node) ([]api.Node, api.Errno) {
	x := f.nodes[root]
	switch x.Kind {
	case api.Letter:
		if x.Sign != letter {
			return leaf(api.None), api.OK
		}
		fallthrough
	case api.Any:
		return leaf(api.Empty), api.OK
	case api.Inter:
		return joined(api.Inter, named)
	case api.Star:
		return ahead(named[0], f.tree(root))
	case api.Not:
		return norm.Not(named[0])
	case api.Concat:
		if e := f.lengthen(root, named); e != api.OK {
			return nil, e
		}
		fallthrough
	case api.Union:
		return joined(api.Union, named)
	}
	return leaf(api.None), api.OK
}

func leaf(kind int) []api.Node { return []api.Node{{Kind: kind}} }
