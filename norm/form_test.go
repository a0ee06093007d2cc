package norm_test

import (
	"cmp"
	"slices"

	"eggbox/api"
)

// normal is the normal form, word for word as the document gives it. The tests hold package norm against it.
func (p plain) normal() plain {
	if len(p.parts) == 0 {
		return p
	}
	x := p.parts[0].normal()
	y := p.parts[len(p.parts)-1].normal()
	return ruleOf(p.node.Kind, x, y)
}

// ruleOf is the rule of a kind, for the normal forms x and y; of a kind with one part for x.
func ruleOf(kind int, x, y plain) plain {
	switch kind {
	case api.Union, api.Inter:
		return ruleOfMembers(kind, x, y)
	case api.Concat:
		return ruleOfConcat(x, y)
	case api.Star:
		return ruleOfStar(x)
	}
	if x.node.Kind == api.Not {
		return x.parts[0]
	}
	return not(x)
}

// membersOf are the members of a normal form.
func membersOf(kind int, x plain) []plain {
	switch {
	case x.node.Kind == kind:
		return append(membersOf(kind, x.parts[0]), membersOf(kind, x.parts[1])...)
	case kind == api.Union && x.is(none), kind == api.Inter && x.is(all):
		return nil
	}
	return []plain{x}
}

func ruleOfMembers(kind int, x, y plain) plain {
	without, with := none, all
	if kind == api.Inter {
		without, with = all, none
	}
	members := append(membersOf(kind, x), membersOf(kind, y)...)
	if slices.ContainsFunc(members, with.is) {
		return with
	}
	slices.SortFunc(members, plain.order)
	members = slices.CompactFunc(members, plain.is)
	if len(members) == 0 {
		return without
	}
	return left(kind, members...)
}

func ruleOfConcat(x, y plain) plain {
	switch {
	case x.is(none) || y.is(none):
		return none
	case x.is(empty):
		return y
	case y.is(empty):
		return x
	case x.node.Kind == api.Concat:
		return ruleOfConcat(x.parts[0], ruleOfConcat(x.parts[1], y))
	case x.is(all) && (y.is(all) || y.node.Kind == api.Concat && y.parts[0].is(all)):
		return y
	}
	return cat(x, y)
}

func ruleOfStar(x plain) plain {
	switch {
	case x.is(none), x.is(empty):
		return empty
	case x.node.Kind == api.Star:
		return x
	case x.is(dot), x.is(all):
		return all
	}
	return star(x)
}

func (p plain) is(q plain) bool {
	return p.node == q.node && slices.EqualFunc(p.parts, q.parts, plain.is)
}

// order is the order of trees: by how many nodes they have, then by the first ones that are unlike.
func (p plain) order(q plain) int {
	l, m := p.list(), q.list()
	if len(l) != len(m) {
		return cmp.Compare(len(l), len(m))
	}
	for i := range l {
		if l[i].Kind != m[i].Kind {
			return cmp.Compare(l[i].Kind, m[i].Kind)
		}
		if l[i].Sign != m[i].Sign {
			return cmp.Compare(l[i].Sign, m[i].Sign)
		}
	}
	return 0
}

// says is whether an expression says a word, by the definition.
func (p plain) says(w string) bool {
	switch p.node.Kind {
	case api.None:
		return false
	case api.Empty:
		return w == ""
	case api.Letter:
		return w == string([]byte{p.node.Sign})
	case api.Any:
		return len(w) == 1
	case api.Union:
		return p.parts[0].says(w) || p.parts[1].says(w)
	case api.Inter:
		return p.parts[0].says(w) && p.parts[1].says(w)
	case api.Not:
		return !p.parts[0].says(w)
	case api.Star:
		if w == "" {
			return true
		}
		for cut := 1; cut <= len(w); cut++ {
			if p.parts[0].says(w[:cut]) && p.says(w[cut:]) {
				return true
			}
		}
		return false
	}
	for cut := range len(w) + 1 {
		if p.parts[0].says(w[:cut]) && p.parts[1].says(w[cut:]) {
			return true
		}
	}
	return false
}

// planted is the expression of a list that is a tree.
func planted(l []api.Node) plain {
	var free []plain
	for _, n := range l {
		parts := map[int]int{api.Union: 2, api.Inter: 2, api.Concat: 2, api.Star: 1, api.Not: 1}[n.Kind]
		rest := len(free) - parts
		free = append(free[:rest], plain{n, slices.Clone(free[rest:])})
	}
	return free[0]
}
