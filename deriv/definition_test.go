package deriv_test

import (
	"cmp"
	"slices"

	"eggbox/api"
)

// derivative is D(n) of a normal form by a letter, word for word as the document gives it, and how many nodes the greatest one of the trees on the way to it has. The tests hold package deriv against it.
func (n plain) derivative(x byte) (d plain, greatest int) {
	switch n.node.Kind {
	case api.None, api.Empty:
		return none, 1
	case api.Letter:
		if n.node.Sign == x {
			return empty, 1
		}
		return none, 1
	case api.Any:
		return empty, 1
	case api.Union, api.Inter:
		p, most := n.parts[0].derivative(x)
		q, more := n.parts[1].derivative(x)
		d = ruleOf(n.node.Kind, p, q)
		return d, max(d.size(), most, more)
	case api.Not:
		p, most := n.parts[0].derivative(x)
		d = ruleOf(api.Not, p, p)
		return d, max(d.size(), most)
	case api.Star:
		p, most := n.parts[0].derivative(x)
		d = ruleOf(api.Concat, p, n)
		return d, max(d.size(), most)
	}
	p, most := n.parts[0].derivative(x)
	whole := ruleOf(api.Concat, p, n.parts[1])
	if !n.parts[0].saysEmpty() {
		return whole, max(whole.size(), most)
	}
	q, more := n.parts[1].derivative(x)
	d = ruleOf(api.Union, whole, q)
	return d, max(d.size(), whole.size(), most, more)
}

// by is the derivative by a word, and how many nodes the greatest tree on the way to it has; it ends where a derivative has ErrSize.
func (p plain) by(w string) (d plain, greatest int) {
	d = p.normal()
	for i := 0; i < len(w) && greatest <= api.MaxNodes; i++ {
		var most int
		d, most = d.derivative(w[i])
		greatest = max(greatest, most)
	}
	return d, greatest
}

// classes are, for each of k letters, the first one with the same derivative.
func (p plain) classes(k int) string {
	var out []byte
	for i := range k {
		d, _ := p.normal().derivative('a' + byte(i))
		for j := range i + 1 {
			first, _ := p.normal().derivative('a' + byte(j))
			if d.is(first) {
				out = append(out, 'a'+byte(j))
				break
			}
		}
	}
	return string(out)
}

// saysEmpty is whether the expression says the empty word.
func (p plain) saysEmpty() bool {
	switch p.node.Kind {
	case api.Empty, api.Star:
		return true
	case api.Union:
		return p.parts[0].saysEmpty() || p.parts[1].saysEmpty()
	case api.Inter, api.Concat:
		return p.parts[0].saysEmpty() && p.parts[1].saysEmpty()
	case api.Not:
		return !p.parts[0].saysEmpty()
	}
	return false
}

// normal is the normal form, word for word as the document gives it.
func (p plain) normal() plain {
	if len(p.parts) == 0 {
		return p
	}
	x := p.parts[0].normal()
	y := p.parts[len(p.parts)-1].normal()
	return ruleOf(p.node.Kind, x, y)
}

// ruleOf is the rule of a kind, for the normal forms x and y; of a kind with one part for x.
func ruleOf(kind int, x, y plain) plain {
	switch kind {
	case api.Union, api.Inter:
		return ruleOfMembers(kind, x, y)
	case api.Concat:
		return ruleOfConcat(x, y)
	case api.Star:
		return ruleOfStar(x)
	}
	if x.node.Kind == api.Not {
		return x.parts[0]
	}
	return not(x)
}

// membersOf are the members of a normal form.
func membersOf(kind int, x plain) []plain {
	switch {
	case x.node.Kind == kind:
		return append(membersOf(kind, x.parts[0]), membersOf(kind, x.parts[1])...)
	case kind == api.Union && x.is(none), kind == api.Inter && x.is(all):
		return nil
	}
	return []plain{x}
}

func ruleOfMembers(kind int, x, y plain) plain {
	without, with := none, all
	if kind == api.Inter {
		without, with = all, none
	}
	members := append(membersOf(kind, x), membersOf(kind, y)...)
	if slices.ContainsFunc(members, with.is) {
		return with
	}
	slices.SortFunc(members, plain.order)
	members = slices.CompactFunc(members, plain.is)
	if len(members) == 0 {
		return without
	}
	return left(kind, members...)
}

func ruleOfConcat(x, y plain) plain {
	switch {
	case x.is(none) || y.is(none):
		return none
	case x.is(empty):
		return y
	case y.is(empty):
		return x
	case x.node.Kind == api.Concat:
		return ruleOfConcat(x.parts[0], ruleOfConcat(x.parts[1], y))
	case x.is(all) && (y.is(all) || y.node.Kind == api.Concat && y.parts[0].is(all)):
		return y
	}
	return cat(x, y)
}

func ruleOfStar(x plain) plain {
	switch {
	case x.is(none), x.is(empty):
		return empty
	case x.node.Kind == api.Star:
		return x
	case x.is(dot), x.is(all):
		return all
	}
	return star(x)
}

func (p plain) is(q plain) bool {
	return p.node == q.node && slices.EqualFunc(p.parts, q.parts, plain.is)
}

// order is the order of trees: by how many nodes they have, then by the first ones that are unlike.
func (p plain) order(q plain) int {
	l, m := p.list(), q.list()
	if len(l) != len(m) {
		return cmp.Compare(len(l), len(m))
	}
	for i := range l {
		if l[i].Kind != m[i].Kind {
			return cmp.Compare(l[i].Kind, m[i].Kind)
		}
		if l[i].Sign != m[i].Sign {
			return cmp.Compare(l[i].Sign, m[i].Sign)
		}
	}
	return 0
}
