package tree

import (
	"slices"

	"eggbox/api"
)

// Parts: the parts of the last node, and that node; Join: a tree of parts.
func Parts(t []api.Node) (root api.Node, parts [][]api.Node, e api.Errno) {
	if e := treeError(t); e != api.OK {
		return api.Node{}, nil, e
	}
	last := len(t) - 1
	root = t[last]
	parts = make([][]api.Node, partsOf[root.Kind])
	size := sizes(t)
	end := last
	for i := len(parts) - 1; i >= 0; i-- {
		begin := end - size[end-1]
		parts[i] = slices.Clone(t[begin:end])
		end = begin
	}
	return root, parts, api.OK
}

func Join(root api.Node, parts ...[]api.Node) ([]api.Node, api.Errno) {
	if !isNode(root) {
		return nil, api.ErrTree
	}
	if len(parts) != partsOf[root.Kind] {
		return nil, api.ErrArg
	}
	nodes := 1
	for _, p := range parts {
		if e := treeError(p); e != api.OK {
			return nil, e
		}
		nodes += len(p)
	}
	if nodes > api.MaxNodes {
		return nil, api.ErrSize
	}
	whole := make([]api.Node, nodes)
	at := 0
	for _, p := range parts {
		at += copy(whole[at:], p)
	}
	whole[at] = root
	return whole, api.OK
}

// sizes: at each place of a tree how many nodes the tree has that ends there.
func sizes(t []api.Node) []int {
	size := make([]int, len(t))
	for i, n := range t {
		size[i] = 1
		for range partsOf[n.Kind] {
			size[i] += size[i-size[i]]
		}
	}
	return size
}
