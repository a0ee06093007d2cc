package tree

import (
	"cmp"
	"slices"

	"eggbox/api"
)

// Compare: -1, 0 or 1: the order of trees.
func Compare(a, b []api.Node) int {
	if c := cmp.Compare(len(a), len(b)); c != 0 {
		return c
	}
	return slices.CompareFunc(a, b, compareNodes)
}

func compareNodes(m, n api.Node) int {
	return cmp.Or(cmp.Compare(m.Kind, n.Kind), cmp.Compare(m.Sign, n.Sign))
}

// Reverse: the expression of all words from behind; Rename: with other letters.
func Reverse(t []api.Node) ([]api.Node, api.Errno) {
	if e := treeError(t); e != api.OK {
		return nil, e
	}
	size := sizes(t)
	turned := make([]api.Node, len(t))
	// Written from behind, root first, with a stack of the places where trees end that are still to be written: a tree may be too deep for calls within calls to be cheap.
	ends := []int{len(t) - 1}
	for at := len(t) - 1; at >= 0; at-- {
		end := ends[len(ends)-1]
		ends = ends[:len(ends)-1]
		turned[at] = t[end]
		second := end - 1
		switch partsOf[t[end].Kind] {
		case 1:
			ends = append(ends, second)
		case 2:
			first := second - size[second]
			if t[end].Kind == api.Concat {
				first, second = second, first
			}
			ends = append(ends, first, second)
		}
	}
	return turned, api.OK
}

func Rename(t []api.Node, to string) ([]api.Node, api.Errno) {
	if e := treeError(t); e != api.OK {
		return nil, e
	}
	if len(to) != api.MaxLetters {
		return nil, api.ErrArg
	}
	for i := range len(to) {
		if !isLetter(to[i]) {
			return nil, api.ErrLetter
		}
	}
	named := slices.Clone(t)
	for i, n := range named {
		if n.Kind == api.Letter {
			named[i].Sign = to[n.Sign-firstLetter]
		}
	}
	return named, api.OK
}
