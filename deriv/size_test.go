package deriv_test

import (
	"slices"
	"testing"

	"eggbox/api"
	"eggbox/deriv"
)

// sized is a normal form of that many nodes: a row of letters, with Not above it where the number is even.
func sized(nodes int) plain {
	if nodes%2 == 1 {
		return row((nodes + 1) / 2)
	}
	return not(row(nodes / 2))
}

// grown is an expression of about half as many nodes as its derivative by the letter has: the tail, and behind it the star of the letter and the tail; that many, an even number.
func grown(x plain, nodes int) plain { return star(cat(x, sized(nodes/2-2))) }

// full and over are expressions whose derivatives by a have just MaxNodes nodes, and two more; near has two fewer.
var (
	near = grown(a, 3998)
	full = grown(a, 4000)
	over = grown(a, 4002)
)

// greatest holds an expression's derivative by a to the definition, and the greatest tree on the way to that number of nodes.
func greatest(t *testing.T, p plain, nodes int) {
	t.Helper()
	if _, most := p.normal().derivative('a'); most != nodes {
		t.Errorf("%v: the greatest tree has %d nodes, not %d", brief(p.list()), most, nodes)
	}
	byTheDefinition(t, p, 'a')
}

// TestP702JustMaxNodes: derivatives of MaxNodes nodes, and of more, by each of the kinds.
func TestP702JustMaxNodes(t *testing.T) {
	greatest(t, near, 3998)
	greatest(t, full, 4000)
	greatest(t, over, 4002)
	greatest(t, not(near), 3999)
	greatest(t, not(full), 4001)
	for _, kind := range []int{api.Union, api.Inter} {
		greatest(t, join(kind, near, cat(a, b)), 4000)
		greatest(t, join(kind, near, cat(a, star(b))), 4001)
		greatest(t, join(kind, cat(a, b), near), 4000)
		greatest(t, join(kind, cat(a, star(b)), near), 4001)
	}
	// First parts that say the empty word, and such that do not.
	sure := and(near, not(empty))
	for _, first := range []plain{near, sure} {
		greatest(t, cat(first, b), 4000)
		greatest(t, cat(first, star(b)), 4001)
		greatest(t, not(cat(first, b)), 4001)
	}
	greatest(t, star(and(grown(a, 2662), not(empty))), 2662+1336+1)
	greatest(t, star(and(grown(a, 2664), not(empty))), 2664+1337+1)
}

// TestP702TheWholeDerivative: what is answered is that derivative, not only one of its size.
func TestP702TheWholeDerivative(t *testing.T) {
	tail := sized(1998)
	gives(t, full, 'a', cat(tail, full))
	tooLarge(t, over, 'a')
	gives(t, full, 'b', none)
	gives(t, over, 'b', none)
	gives(t, not(over), 'b', all)
}

// manyStars is a*a*..z, of that many stars: the derivative by a has a member for each of them.
func manyStars(stars int, z plain) plain {
	return right(api.Concat, append(slices.Repeat([]plain{star(a)}, stars), z)...)
}

// TestP702ManyMembers: small trees whose derivatives are great.
func TestP702ManyMembers(t *testing.T) {
	chain := manyStars(50, star(b)) // 152 nodes, its derivative 50 members and 3974 nodes
	greatest(t, chain, 3974)
	greatest(t, or(chain, cat(a, sized(25))), 4000)
	greatest(t, or(chain, cat(a, sized(26))), 4001)
	greatest(t, manyStars(51, b), 3825+153+51+50)
	greatest(t, manyStars(50, b), 3924)
	greatest(t, right(api.Concat, slices.Repeat([]plain{star(a)}, 51)...), 3977)
	greatest(t, right(api.Concat, slices.Repeat([]plain{star(a)}, 52)...), 4133)
}

// TestP702OnlyTheConcatTooLarge: of a first part that says the empty word the rule Concat's answer counts, even if the rule Union then takes All in its place.
func TestP702OnlyTheConcatTooLarge(t *testing.T) {
	ends := or(cat(a, all), b)          // 6 nodes; its derivative is All
	starred := or(cat(a, all), star(b)) // 7
	gives(t, cat(grown(a, 3992), starred), 'a', all)
	greatest(t, cat(grown(a, 3992), starred), 4000)
	greatest(t, cat(grown(a, 3994), ends), 4001)
	tooLarge(t, cat(grown(a, 3994), ends), 'a')
	tooLarge(t, cat(grown(a, 3994), starred), 'a')
	tooLarge(t, not(cat(grown(a, 3994), ends)), 'a')
	tooLarge(t, and(b, cat(grown(a, 3994), ends)), 'a')
	tooLarge(t, star(or(b, cat(grown(a, 3994), ends))), 'a')
}

// TestP702OnlyAPartTooLarge: derivatives that another rule then makes small.
func TestP702OnlyAPartTooLarge(t *testing.T) {
	great := not(full) // its derivative has 4001 nodes
	for _, x := range []struct {
		above  func(p plain) plain
		should plain
	}{
		{func(p plain) plain { return or(p, cat(a, all)) }, all},
		{func(p plain) plain { return and(p, b) }, none},
		{func(p plain) plain { return and(cat(b, row(900)), p) }, none},
		{func(p plain) plain { return cat(and(p, b), sized(900)) }, none},
		{func(p plain) plain { return star(and(p, b)) }, none},
		{func(p plain) plain { return not(and(p, b)) }, all},
		{func(p plain) plain { return cat(star(and(p, b)), a) }, empty},
		{func(p plain) plain { return cat(star(b), and(p, b)) }, none},
		{func(p plain) plain { return and(and(p, cat(a, c)), b) }, none},
	} {
		gives(t, x.above(grown(a, 3000)), 'a', x.should)
		tooLarge(t, x.above(over), 'a')
		tooLarge(t, x.above(great), 'a')
		gives(t, x.above(not(or(cat(b, row(400)), cat(b, sized(800))))), 'a', x.should)
	}
	gives(t, or(full, cat(a, all)), 'a', all)
	gives(t, and(full, b), 'a', none)
	// Small trees with great derivatives, so that either part may be the lesser one.
	chain := manyStars(52, b)
	for _, other := range []plain{b, cat(b, row(300))} {
		tooLarge(t, and(chain, other), 'a')
		tooLarge(t, and(other, chain), 'a')
		gives(t, and(manyStars(50, b), other), 'a', none)
	}
}

// TestP702MembersTogetherTooLarge: of many members those up to one may be too large together, each of them small enough; that counts where no member ahead of it takes the place of all, even if a later one does.
func TestP702MembersTogetherTooLarge(t *testing.T) {
	one, other := manyStars(40, b), manyStars(40, star(b)) // about 2500 nodes each
	for _, x := range []struct {
		kind        int
		early, late plain // by size ahead of the others, and behind them
		should      plain
	}{
		{api.Union, cat(a, all), not(cat(b, row(100))), all},
		{api.Inter, b, cat(b, row(100)), none},
	} {
		greatest(t, join(x.kind, one, x.late), normalBy(one, 'a').size())
		gives(t, join(x.kind, one, x.late), 'a', x.should)
		gives(t, left(x.kind, one, other, x.early), 'a', x.should)
		gives(t, left(x.kind, x.late, one, other, x.early), 'a', x.should)
		tooLarge(t, join(x.kind, one, other), 'a')
		tooLarge(t, left(x.kind, one, other, x.late), 'a')
		tooLarge(t, left(x.kind, x.late, other, one), 'a')
		tooLarge(t, cat(left(x.kind, one, other, x.late), c), 'a')
	}
}

// TestP702RowsOfMembers: many members, and many parts that say the empty word, most of which the letter leads to None.
func TestP702RowsOfMembers(t *testing.T) {
	d := dice(662607015)
	for range 60 {
		var parts []plain
		for range 10 + d.below(40) {
			parts = append(parts, or(empty, d.rich(3+d.below(6))), star(d.rich(3+d.below(4))))
		}
		byTheDefinition(t, left(api.Union, parts...), 'a')
		byTheDefinition(t, left(api.Inter, parts...), 'a')
		byTheDefinition(t, right(api.Concat, parts[:20]...), 'c')
		byTheDefinition(t, right(api.Concat, append(parts[:15], a, b)...), 'b')
		byTheDefinition(t, right(api.Concat, append(parts[:10], cat(dot, all))...), 'b')
	}
}

// TestP702ComplementTooLarge: the complement of the derivative, with one node more, is on the way to the derivative itself.
func TestP702ComplementTooLarge(t *testing.T) {
	around := func(p plain) plain { return not(or(not(p), b)) }
	gives(t, around(near), 'a', cat(sized(1997).parts[0], cat(sized(1997).parts[1], near)).normal())
	greatest(t, around(near), 3999)
	greatest(t, around(full), 4001)
	tooLarge(t, around(full), 'a')
}

// TestP702NotNamed: a second part's derivative counts only where the first part says the empty word.
func TestP702NotNamed(t *testing.T) {
	for _, second := range []plain{over, not(full), manyStars(60, b), or(over, b)} {
		for _, first := range []plain{a, dot, or(a, c), not(empty), not(star(b)), and(a, star(a)), or(cat(a, a), a)} {
			gives(t, cat(first, second), 'a', ruleOf(api.Concat, normalBy(first, 'a'), second.normal()))
		}
		gives(t, cat(b, second), 'a', none)
		gives(t, cat(c, cat(star(a), second)), 'a', none)
		for _, first := range []plain{star(a), or(a, empty), star(b), not(a), not(b), and(star(a), star(b)), all, or(empty, cat(a, b))} {
			tooLarge(t, cat(first, second), 'a')
			tooLarge(t, cat(first, cat(star(c), second)), 'a')
		}
	}
}

func normalBy(p plain, x byte) plain {
	d, _ := p.normal().derivative(x)
	return d
}

// TestP702NearTheLimit: thrown expressions whose derivatives are about as great as may be.
func TestP702NearTheLimit(t *testing.T) {
	d := dice(57721566)
	within, beyond := 0, 0
	for range 120 {
		p := right(api.Concat, slices.Repeat([]plain{or(empty, d.rich(8+d.below(25)))}, 8+d.below(25))...)
		if _, most := p.normal().derivative('a'); most > api.MaxNodes {
			beyond++
		} else if most > 500 {
			within++
		}
		byTheDefinition(t, p, 'a')
	}
	if within < 10 || beyond < 10 {
		t.Errorf("%d great ones, %d too great: too few to tell", within, beyond)
	}
}

// TestP703LaterTooLarge: words whose first derivatives are small and whose later one has ErrSize.
func TestP703LaterTooLarge(t *testing.T) {
	p := cat(b, or(cat(c, over), and(manyStars(52, b), cat(b, c)))).list()
	for _, x := range []struct {
		w string
		e api.Errno
	}{
		{"", api.OK}, {"b", api.OK}, {"a", api.OK}, {"bb", api.OK}, {"bc", api.OK}, {"aaaa", api.OK}, {"bcb", api.OK}, {"bcbaaa", api.OK},
		{"ba", api.ErrSize}, {"bab", api.ErrSize}, {"babbbb", api.ErrSize}, {"bca", api.ErrSize}, {"bcah", api.ErrSize},
		{"bai", api.ErrLetter}, {"ibca", api.ErrLetter}, {"bca\x80", api.ErrLetter}, {"bc\xe1a", api.ErrLetter},
	} {
		d, e := deriv.By(p, x.w)
		if e != x.e || (e == api.OK) != (len(d) > 0) {
			t.Errorf("By(.., %q): %d nodes, %d; should be %d", x.w, len(d), e, x.e)
		}
	}
	// The same derivative of one word that may be, and of the other that may not.
	d, e := deriv.By(cat(b, full).list(), "ba")
	want(t, "just MaxNodes nodes", d, e, cat(sized(1998), full).list())
	d, e = deriv.By(cat(b, not(full)).list(), "ba")
	refused(t, "one more", len(d) == 0, e, api.ErrSize)
}

// TestP703NearTheLimit: derivatives by words that grow letter by letter, until one is too great.
func TestP703NearTheLimit(t *testing.T) {
	d := dice(161803398)
	within, beyond := 0, 0
	for range 70 {
		var parts []plain
		for range 8 + d.below(18) {
			parts = append(parts, or(empty, d.rich(8+d.below(8))))
		}
		p := star(right(api.Concat, parts...))
		w := d.word(2, 2+d.below(4))
		should, most := p.by(w)
		got, e := deriv.By(p.list(), w)
		if most > api.MaxNodes {
			beyond++
			refused(t, "By", len(got) == 0, e, api.ErrSize)
			continue
		}
		if most > 500 {
			within++
		}
		want(t, "By", got, e, should.list())
	}
	if within < 10 || beyond < 10 {
		t.Errorf("%d great ones, %d too great: too few to tell", within, beyond)
	}
}

func TestP704TooLarge(t *testing.T) {
	for own := byte('a'); own <= 'h'; own++ {
		x := leaf(letter(own))
		for k := 1; k <= 8; k++ {
			for _, p := range []plain{grown(x, 4002), not(grown(x, 4000)), cat(star(x), grown(x, 4002)), and(grown(x, 4002), cat(x, all))} {
				s, e := deriv.Classes(k, p.list())
				if k > int(own-'a') {
					refused(t, "Classes", s == "", e, api.ErrSize)
				} else if e != api.OK || s != "aaaaaaaa"[:k] {
					t.Errorf("Classes(%d, ..) with %c behind: %q, %d", k, own, s, e)
				}
			}
		}
	}
	s, e := deriv.Classes(2, full.list())
	if s != "ab" || e != api.OK {
		t.Errorf("Classes of a derivative of just MaxNodes nodes: %q, %d", s, e)
	}
}
