package norm

import (
	"slices"

	"eggbox/api"
	"eggbox/tree"
)

// rule: what becomes of the last forms as the parts of a node.
type rule struct {
	unit, zero []api.Node     // of two parts: beside unit only the other one counts, beside zero nothing
	apply      func(f *forms) // where neither is there
}

// rules: by the kinds of the nodes that have parts.
func rules() [api.Not + 1]rule {
	none := []api.Node{{Kind: api.None}}
	empty := []api.Node{{Kind: api.Empty}}
	all := []api.Node{{Kind: api.None}, {Kind: api.Not}}
	return [api.Not + 1]rule{
		api.Union:  {unit: none, zero: all, apply: func(f *forms) { merge(f, api.Union) }},
		api.Inter:  {unit: all, zero: none, apply: func(f *forms) { merge(f, api.Inter) }},
		api.Concat: {unit: empty, zero: none, apply: concat},
		api.Star:   {apply: star},
		api.Not:    {apply: not},
	}
}

// settles leaves one of the last two forms, if unit or zero is among them; false, if neither is.
func (r rule) settles(f *forms) bool {
	if len(r.unit) == 0 {
		return false
	}
	x, y := f.last()
	switch {
	case slices.Equal(f.list(x), r.zero), slices.Equal(f.list(y), r.unit):
		f.drop(y)
	case slices.Equal(f.list(y), r.zero), slices.Equal(f.list(x), r.unit):
		f.drop(x)
	default:
		return false
	}
	return true
}

// merge: Union and Inter: the members of both, rising, each of them once.
func merge(f *forms, kind int) {
	x, y := f.last()
	compare := func(a, b span) int { return tree.Compare(f.list(a), f.list(b)) }
	// One member above all others goes behind them as it stands.
	if f.root(y) != kind && compare(f.greatest(kind, x), y) < 0 {
		f.put(api.Node{Kind: kind}, 2)
		return
	}
	for i, m := range rising(f.members(kind, x), f.members(kind, y), compare) {
		f.repeat(m)
		if i > 0 {
			f.put(api.Node{Kind: kind}, 2)
		}
	}
	f.drop(span{x.from, y.to})
}

// rising: two lists that rise, as one, without what is there twice.
func rising(a, b []span, compare func(a, b span) int) []span {
	var out []span
	for len(a) > 0 && len(b) > 0 {
		order := compare(a[0], b[0])
		if order > 0 {
			a, b = b, a
		}
		out = append(out, a[0])
		a = a[1:]
		if order == 0 {
			b = b[1:]
		}
	}
	return append(append(out, a...), b...)
}

// concat: a Concat that leans to the right has its parts one behind the other, and all its roots behind them. Without these each part is joined, from the last one on, to what is behind it; none of them is None or Empty.
func concat(f *forms) {
	x, _ := f.last()
	roots := 0
	for f.nodes[x.to-1-roots].Kind == api.Concat {
		roots++
	}
	f.drop(span{x.to - roots, x.to})
	for range roots + 1 {
		p, rest := f.last()
		if f.isAll(p) && f.beginsWithAll(rest) {
			f.drop(p)
			continue
		}
		f.put(api.Node{Kind: api.Concat}, 2)
	}
}

func (f *forms) isAll(s span) bool {
	return s.to-s.from == 2 && f.nodes[s.from].Kind == api.None && f.root(s) == api.Not
}

func (f *forms) beginsWithAll(s span) bool {
	if f.root(s) == api.Concat {
		s, _ = f.parts(s)
	}
	return f.isAll(s)
}

func star(f *forms) {
	x := f.endingAt(len(f.nodes))
	switch f.root(x) {
	case api.None, api.Empty:
		f.drop(x)
		f.put(api.Node{Kind: api.Empty}, 0)
	case api.Any:
		f.drop(x)
		f.put(api.Node{Kind: api.None}, 0)
		f.put(api.Node{Kind: api.Not}, 1)
	case api.Star:
	default:
		if !f.isAll(x) {
			f.put(api.Node{Kind: api.Star}, 1)
		}
	}
}

func not(f *forms) {
	x := f.endingAt(len(f.nodes))
	if f.root(x) == api.Not {
		f.drop(span{x.to - 1, x.to})
		return
	}
	f.put(api.Node{Kind: api.Not}, 1)
}
