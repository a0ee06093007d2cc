package deriv

import (
	"slices"

	"eggbox/api"
	"eggbox/match"
	"eggbox/norm"
	"eggbox/tree"
)

// members: the roots of a union's or an intersection's members, in order.
func (f form) members(root int) []int {
	kind := f.nodes[root].Kind
	var out []int
	for f.nodes[root].Kind == kind {
		out = append(out, root-1)
		root = f.first(root)
	}
	out = append(out, root)
	slices.Reverse(out)
	return out
}

// row: the roots of a concatenation's parts, from behind, without those that are behind one that does not say the empty word. (As a concatenation leans to the right, what is behind its first part has its root just ahead of the whole one's.)
func (f form) row(root int) []int {
	var out []int
	empty := true
	for empty && f.nodes[root].Kind == api.Concat {
		first := f.first(root)
		out = append(out, first)
		empty, _ = match.Nullable(f.tree(first))
		root--
	}
	if empty {
		out = append(out, root)
	}
	slices.Reverse(out)
	return out
}

// lengthen makes, of the derivatives of a row's parts, those of the parts with what is behind them in the concatenation.
func (f form) lengthen(root int, parts [][]api.Node) api.Errno {
	for i, d := range parts {
		whole := root - len(parts) + 1 + i
		if f.nodes[whole].Kind != api.Concat {
			continue // the last part of all
		}
		var e api.Errno
		if parts[i], e = ahead(d, f.tree(whole-1)); e != api.OK {
			return e
		}
	}
	return api.OK
}

// ahead: the rule Concat for a derivative and a tree of the form. None is what most letters lead to: then the tree need not be gone through.
func ahead(d, behind []api.Node) ([]api.Node, api.Errno) {
	if slices.Equal(d, leaf(api.None)) {
		return d, api.OK
	}
	return norm.Concat(d, behind)
}

// joined: normal forms under the rule Union or Inter: the second one with the first, the third one with these, and so on; ErrSize, if one of the trees on that way is too large. Their members are kept apart until all are there.
func joined(kind int, forms [][]api.Node) ([]api.Node, api.Errno) {
	unit, zero := leaf(api.None), []api.Node{{Kind: api.None}, {Kind: api.Not}}
	if kind == api.Inter {
		unit, zero = zero, unit
	}
	var members [][]api.Node
	nodes := -1 // each member has a root of that kind with it, but for the first one
	for _, f := range forms {
		if slices.Equal(f, zero) {
			return zero, api.OK
		}
		for _, m := range membersOf(kind, f, unit) {
			at, known := slices.BinarySearchFunc(members, m, tree.Compare)
			if !known {
				members = slices.Insert(members, at, m)
				nodes += len(m) + 1
			}
		}
		if nodes > api.MaxNodes {
			return nil, api.ErrSize
		}
	}
	if len(members) == 0 {
		return unit, api.OK
	}
	out := slices.Clone(members[0])
	for _, m := range members[1:] {
		out = append(append(out, m...), api.Node{Kind: kind})
	}
	return out, api.OK
}

// membersOf: a form's members, where unit is the one that has none. Most forms are their own only member: these are not gone through.
func membersOf(kind int, f, unit []api.Node) [][]api.Node {
	switch {
	case slices.Equal(f, unit):
		return nil
	case f[len(f)-1].Kind != kind:
		return [][]api.Node{f}
	}
	out, _ := norm.Members(kind, f)
	return out
}
