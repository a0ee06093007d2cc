package deriv_test

import (
	"slices"
	"testing"

	"eggbox/api"
	"eggbox/deriv"
)

func TestP702Examples(t *testing.T) {
	a, b, cat, star, not := letter('a'), letter('b'), node(api.Concat), node(api.Star), node(api.Not)
	for _, x := range []struct {
		text   string
		letter byte
		should []api.Node
	}{
		{"(ab)*", 'a', list(b, a, b, cat, star, cat)},
		{"(ab)*", 'b', list(node(api.None))},
		{"!a", 'a', list(node(api.Empty), not)},
		{"!a", 'b', list(node(api.None), not)},
		{"a*b", 'a', list(a, star, b, cat)},
		{"a*b", 'b', list(node(api.Empty))},
	} {
		d, e := deriv.Deriv(parsed(t, x.text), x.letter)
		want(t, x.text, d, e, x.should)
	}
	d, e := deriv.Deriv(list(a), 'i')
	refused(t, "Deriv(a, i)", len(d) == 0, e, api.ErrLetter)
}

// TestP702EachKind: one derivative for each sentence of the definition, written out by hand.
func TestP702EachKind(t *testing.T) {
	for _, x := range []struct{ of, byLetter, should string }{
		{"0", "a", "0"}, {"0", "h", "0"}, {"1", "a", "0"}, {"1", "h", "0"},
		{"a", "a", "1"}, {"a", "b", "0"}, {"h", "h", "1"}, {"h", "a", "0"}, {"g", "h", "0"},
		{".", "a", "1"}, {".", "h", "1"},
		{"a|b", "a", "1"}, {"a|b", "c", "0"}, {"ab|ac", "a", "b|c"}, {"ac|ab", "a", "b|c"}, {"ab|b", "a", "b"}, {"ab|.", "a", "1|b"}, {"ab|a.*", "a", "!0"},
		{"a&b", "a", "0"}, {"ab&ac", "a", "b&c"}, {"ac&ab", "a", "b&c"}, {"a&.", "b", "0"}, {"ab&a.*", "a", "b"},
		{"!0", "a", "!0"}, {"!1", "a", "!0"}, {"!(ab)", "a", "!b"}, {"!(ab)", "b", "!0"}, {"!(a.*)", "a", "0"}, {"!(a!b)", "a", "b"},
		{"a*", "a", "a*"}, {"a*", "b", "0"}, {"(ab)*", "a", "b(ab)*"}, {"(.*)", "a", "!0"}, {"(a|b)*", "b", "(a|b)*"}, {"(ab|ac)*", "a", "(b|c)(ab|ac)*"}, {"(a*b*)*", "a", "a*(b*(a*b*)*)"},
		{"ab", "a", "b"}, {"ab", "b", "0"}, {"abc", "a", "bc"}, {"(ab)c", "a", "bc"}, {".b", "c", "b"}, {"!0a", "a", "1|!0a"}, {"!0a", "b", "!0a"},
		{"a*a*", "a", "a*|a*a*"}, {"a*b*", "b", "b*"}, {"a*b*", "a", "a*b*"}, {"a?b", "b", "1"}, {"a?b", "a", "b"}, {"a?a", "a", "1|a"}, {"(a|1)(b|1)b", "b", "1|b"}, {"!a b", "b", "1|!0b"}, {"!a b", "a", "!1b"},
	} {
		should := parsed(t, x.should)
		d, e := deriv.Deriv(parsed(t, x.of), x.byLetter[0])
		want(t, x.of+" by "+x.byLetter, d, e, should)
	}
}

// TestP702FirstPartsWithoutDerivative: concatenations whose first part says the empty word and whose derivative is None.
func TestP702FirstPartsWithoutDerivative(t *testing.T) {
	for _, first := range []plain{star(b), or(empty, b), or(b, empty), star(cat(b, a)), not(cat(dot, all)), not(or(a, cat(dot, all))), and(star(a), star(b)), cat(star(b), star(c)), nested(b, 5, api.Star)} {
		gives(t, cat(first, a), 'a', empty)
		gives(t, cat(first, cat(a, c)), 'a', c)
		gives(t, cat(first, c), 'a', none)
		gives(t, not(cat(first, a)), 'a', not(empty))
		gives(t, star(cat(first, cat(a, c))), 'a', cat(c, star(cat(first, cat(a, c)).normal())))
	}
}

// complements are expressions, their stars of stars, and the complements of all of these.
func complements(ps []plain) []plain {
	var out []plain
	for _, p := range ps {
		out = append(out, p, star(p), star(star(p)), nested(p, 3, api.Star, api.Not), nested(p, 4, api.Star, api.Star, api.Not))
	}
	for _, p := range slices.Clone(out) {
		out = append(out, not(p), not(not(p)))
	}
	return out
}

// byTheDefinition holds the derivative of an expression to the definition's.
func byTheDefinition(t *testing.T, p plain, x byte) {
	t.Helper()
	should, greatest := p.normal().derivative(x)
	if greatest > api.MaxNodes {
		tooLarge(t, p, x)
		return
	}
	gives(t, p, x, should)
}

func TestP702ByTheDefinition(t *testing.T) {
	for _, p := range append(samples(), complements(everyTree(3, none, empty, dot, a, b))...) {
		for _, x := range []byte("abcdh") {
			byTheDefinition(t, p, x)
		}
	}
}

func TestP702EveryByte(t *testing.T) {
	for _, p := range []plain{none, empty, dot, a, h, all, star(a), star(dot), not(h), cat(star(a), h)} {
		for x := range 256 {
			if 'a' <= x && x <= 'h' {
				byTheDefinition(t, p, byte(x))
				continue
			}
			d, e := deriv.Deriv(p.list(), byte(x))
			refused(t, "Deriv by a byte that is no letter", len(d) == 0, e, api.ErrLetter)
		}
	}
}

// TestP702LettersByTheirOwn: with each letter of the eight ahead of a word, that one alone leads on.
func TestP702LettersByTheirOwn(t *testing.T) {
	for own := byte('a'); own <= 'h'; own++ {
		p := cat(leaf(letter(own)), h)
		for x := byte('a'); x <= 'h'; x++ {
			should := none
			if x == own {
				should = h
			}
			gives(t, p, x, should)
			gives(t, not(p), x, not(should))
		}
	}
}

// TestP702GreatTrees: of 3999 and of 4000 nodes, of all shapes.
func TestP702GreatTrees(t *testing.T) {
	gives(t, row(2000), 'a', row(1999))
	gives(t, row(2000), 'b', none)
	gives(t, not(row(2000)), 'a', not(row(1999)))
	gives(t, not(row(2000)), 'h', all)
	gives(t, left(api.Concat, slices.Repeat([]plain{a}, 2000)...), 'a', row(1999))
	for _, n := range []int{3998, 3999} {
		gives(t, nested(a, n, api.Star), 'a', star(a))
		gives(t, nested(a, n, api.Star), 'b', none)
		gives(t, nested(dot, n, api.Star), 'b', all)
	}
	gives(t, nested(a, 3998, api.Not), 'a', empty)
	gives(t, nested(a, 3999, api.Not), 'a', not(empty))
	for _, kind := range []int{api.Union, api.Inter} {
		many := slices.Repeat([]plain{cat(a, b)}, 1000)
		gives(t, left(kind, many...), 'a', b)
		gives(t, not(right(kind, many...)), 'a', not(b))
		gives(t, not(right(kind, many...)), 'b', all)
	}
	// Parts that lead nowhere, and say the empty word, as many as there is room for.
	ahead := slices.Repeat([]plain{star(b)}, 1332)
	gives(t, right(api.Concat, append(ahead, cat(a, c))...), 'a', c) // 3999 nodes
	gives(t, left(api.Concat, append(ahead, cat(a, c))...), 'a', c)
	gives(t, not(right(api.Concat, append(ahead, cat(a, c))...)), 'a', not(c)) // 4000
	gives(t, not(left(api.Concat, append(ahead, cat(a, c))...)), 'c', all)
}

// TestP702Deep: parts that stand in first parts, one in the other: ((a|b)c|b)c and so on.
func TestP702Deep(t *testing.T) {
	p := a
	should := empty
	for range 999 {
		p = cat(or(p, b), c)
		if should.is(empty) {
			should = c
		} else {
			should = cat(c, should)
		}
	}
	gives(t, p, 'a', should)
	gives(t, p, 'c', none)
	gives(t, not(p), 'a', not(should))
}

func TestP702ThrownTrees(t *testing.T) {
	d := dice(2718281828)
	for nodes := 60; nodes < 300; nodes++ {
		p := d.thrown(nodes)
		byTheDefinition(t, p, 'a')
		byTheDefinition(t, p, 'b')
	}
	for nodes := 3990; nodes <= 4000; nodes++ {
		byTheDefinition(t, d.thrown(nodes), 'a')
	}
	for nodes := 20; nodes < 200; nodes++ {
		byTheDefinition(t, d.rich(nodes), 'c')
	}
}
