package norm_test

import (
	"slices"
	"testing"

	"eggbox/api"
	"eggbox/norm"
)

// normalises holds that a tree has that normal form, and that Is tells whether it is there already.
func normalises(t *testing.T, p, should plain) {
	t.Helper()
	l, form := p.list(), should.list()
	n, e := norm.Normal(l)
	if e != api.OK || !slices.Equal(n, form) {
		t.Errorf("Normal(%v): %v, %d; should be %v", brief(l), brief(n), e, brief(form))
	}
	for _, m := range [][]api.Node{l, form} {
		if is, e := norm.Is(m); is != slices.Equal(m, form) || e != api.OK {
			t.Errorf("Is(%v): %t, %d; the normal form is %v", brief(m), is, e, brief(form))
		}
	}
}

func TestP502ByTheDefinition(t *testing.T) {
	for _, p := range samples() {
		normalises(t, p, p.normal())
	}
	for _, p := range everyTree(6, none, empty, dot, a, b)[6] {
		normalises(t, p, p.normal())
	}
}

func TestP502ManyParts(t *testing.T) {
	// Trees whose members and parts are few and often the same, so that most of them must move.
	for _, p := range slices.Concat(everyTree(7, a, all)...) {
		normalises(t, p, p.normal())
	}
	d := dice(4711)
	for range 40 {
		p := d.thrown(400)
		normalises(t, p, p.normal())
	}
}

func TestP502NoMoreNodes(t *testing.T) {
	d := dice(99)
	lists := [][]api.Node{d.thrown(3999).list(), d.thrown(4000).list()}
	for _, p := range samples() {
		lists = append(lists, p.list())
	}
	for _, l := range lists {
		if n, e := norm.Normal(l); e != api.OK || len(n) > len(l) {
			t.Errorf("Normal(%v): %d nodes of %d, error %d", brief(l), len(n), len(l), e)
		}
	}
}

func TestP502Examples(t *testing.T) {
	for _, x := range []struct{ in, should plain }{
		{or(or(a, b), a), or(a, b)},
		{or(b, a), or(a, b)},
		{cat(cat(a, b), c), cat(a, cat(b, c))},
		{not(not(a)), a},
		{and(a, star(dot)), a},
		{star(star(a)), star(a)},
		{star(none), empty},
		{cat(not(none), cat(not(none), a)), cat(all, a)},
		{cat(cat(not(none), not(none)), a), cat(all, a)},
		{or(a, not(none)), all},
	} {
		normalises(t, x.in, x.should)
	}
	n, e := norm.Normal(list(letter('a'), letter('b'), node(api.Concat), letter('c'), node(api.Concat)))
	want(t, "Normal of (ab)c", n, e, list(letter('a'), letter('b'), letter('c'), node(api.Concat), node(api.Concat)))
}

func TestP502LeavesStay(t *testing.T) {
	for _, p := range []plain{none, empty, dot, a, b, leaf(letter('h'))} {
		normalises(t, p, p)
	}
}

// TestP502TheFourInEachPlace: None, Empty, Any and All as each part of each kind.
func TestP502TheFourInEachPlace(t *testing.T) {
	ab := cat(a, b)
	for _, x := range []struct{ in, should plain }{
		{or(none, ab), ab}, {or(ab, none), ab}, {or(empty, ab), or(empty, ab)}, {or(ab, empty), or(empty, ab)},
		{or(dot, ab), or(dot, ab)}, {or(ab, dot), or(dot, ab)}, {or(all, ab), all}, {or(ab, all), all},
		{or(none, none), none}, {or(none, all), all}, {or(all, none), all}, {or(all, all), all}, {or(empty, none), empty}, {or(dot, all), all},
		{and(none, ab), none}, {and(ab, none), none}, {and(empty, ab), and(empty, ab)}, {and(ab, empty), and(empty, ab)},
		{and(dot, ab), and(dot, ab)}, {and(ab, dot), and(dot, ab)}, {and(all, ab), ab}, {and(ab, all), ab},
		{and(all, all), all}, {and(all, none), none}, {and(none, all), none}, {and(none, none), none}, {and(empty, all), empty}, {and(none, dot), none},
		{cat(none, ab), none}, {cat(ab, none), none}, {cat(empty, ab), ab}, {cat(ab, empty), ab},
		{cat(dot, ab), cat(dot, ab)}, {cat(ab, dot), cat(a, cat(b, dot))}, {cat(all, ab), cat(all, ab)}, {cat(ab, all), cat(a, cat(b, all))},
		{cat(none, empty), none}, {cat(empty, none), none}, {cat(empty, empty), empty}, {cat(none, all), none}, {cat(all, none), none},
		{cat(all, empty), all}, {cat(empty, all), all}, {cat(dot, dot), cat(dot, dot)}, {cat(dot, all), cat(dot, all)}, {cat(all, dot), cat(all, dot)},
		{star(none), empty}, {star(empty), empty}, {star(dot), all}, {star(all), all}, {star(star(dot)), all}, {star(star(empty)), empty},
		{not(none), all}, {not(empty), not(empty)}, {not(dot), not(dot)}, {not(all), none}, {not(star(dot)), none}, {not(not(empty)), empty},
	} {
		normalises(t, x.in, x.should)
	}
}

func TestP502Members(t *testing.T) {
	for _, kind := range []int{api.Union, api.Inter} {
		other := api.Union + api.Inter - kind
		n := func(parts ...plain) plain { return left(kind, parts...) }
		r := func(parts ...plain) plain { return right(kind, parts...) }
		o := func(parts ...plain) plain { return left(other, parts...) }
		abcd := n(a, b, c, d)
		for _, x := range []struct{ in, should plain }{
			{n(a, a), a}, {n(a, a, a), a}, {r(a, a, a), a}, {n(b, a), n(a, b)}, {n(a, b, a), n(a, b)}, {r(a, b, a), n(a, b)},
			{abcd, abcd}, {r(a, b, c, d), abcd}, {n(d, c, b, a), abcd}, {r(d, c, b, a), abcd}, {n(n(c, d), n(a, b)), abcd}, {n(n(b, d), n(a, c)), abcd},
			{n(n(a, c), n(b, d)), abcd}, {n(n(a, b, c), n(b, c, d)), abcd}, {n(r(b, c, d), r(a, b, c)), abcd}, {n(abcd, abcd), abcd}, {n(n(a, b), n(c, b, d)), abcd},
			// The shorter one first; of the same length the lesser kind.
			{n(cat(a, a), b), n(b, cat(a, a))}, {n(star(a), not(a), dot), n(dot, star(a), not(a))}, {n(star(b), not(a)), n(not(a), star(b))},
			// The node of the first letter is told ahead of the root.
			{n(cat(b, a), o(a, b), cat(a, b)), n(o(a, b), cat(a, b), cat(b, a))},
			// Members that become equal, or members of their own, by what is within them.
			{n(cat(cat(a, b), c), cat(a, cat(b, c))), cat(a, cat(b, c))}, {n(not(not(a)), a), a}, {n(not(not(n(a, b))), c), n(a, b, c)},
			{n(c, not(not(n(b, a)))), n(a, b, c)}, {n(star(star(a)), star(a)), star(a)},
			// One within the other keeps its bounds.
			{n(o(b, a), o(a, b)), o(a, b)}, {n(o(a, b), c), n(c, o(a, b))}, {n(o(n(b, a), c), o(c, n(a, b))), o(c, n(a, b))},
			{n(c, o(d, n(b, a))), n(c, o(d, n(a, b)))}, {o(n(a, a), a), a}, {n(o(a, b), o(c, d), o(b, a)), n(o(a, b), o(c, d))},
		} {
			normalises(t, x.in, x.should)
		}
	}
	normalises(t, or(or(a, none), or(none, b)), or(a, b))
	normalises(t, or(or(a, b), or(c, all)), all)
	normalises(t, and(and(a, all), and(all, b)), and(a, b))
	normalises(t, and(and(a, b), and(none, c)), none)
	normalises(t, and(or(a, all), b), b)
	normalises(t, or(and(a, none), b), b)
}

func TestP502Concat(t *testing.T) {
	abcd := right(api.Concat, a, b, c, d)
	for _, x := range []struct{ in, should plain }{
		{abcd, abcd}, {left(api.Concat, a, b, c, d), abcd}, {cat(cat(a, b), cat(c, d)), abcd}, {cat(cat(a, cat(b, c)), d), abcd}, {cat(cat(cat(a, b), c), d), abcd},
		{cat(a, a), cat(a, a)}, {cat(b, a), cat(b, a)}, {left(api.Concat, a, empty, b, empty, c, d), abcd}, {cat(cat(a, none), b), none}, {cat(a, cat(b, none)), none},
		// All ahead of All, of a concatenation that begins with All, and behind one that ends with it.
		{cat(all, all), all}, {cat(all, cat(all, a)), cat(all, a)}, {cat(all, cat(all, all)), all}, {cat(cat(all, all), all), all},
		{cat(cat(a, all), all), cat(a, all)}, {cat(cat(a, all), cat(all, b)), right(api.Concat, a, all, b)}, {cat(cat(a, all), cat(b, all)), right(api.Concat, a, all, b, all)},
		{cat(cat(all, a), cat(all, b)), right(api.Concat, all, a, all, b)}, {cat(cat(all, a), all), right(api.Concat, all, a, all)}, {cat(all, cat(a, all)), right(api.Concat, all, a, all)},
		{cat(star(dot), cat(not(none), a)), cat(all, a)}, {left(api.Concat, all, all, all, a, all, all, b, all, all), right(api.Concat, all, a, all, b, all)},
		{cat(cat(all, empty), cat(empty, all)), all}, {cat(all, or(all, a)), all}, {cat(cat(a, cat(b, all)), cat(all, cat(c, all))), right(api.Concat, a, b, all, c, all)},
		// What begins with All, but not as the first part of a concatenation, stays.
		{cat(all, or(cat(all, a), b)), cat(all, or(b, cat(all, a)))}, {cat(all, star(cat(all, a))), cat(all, star(cat(all, a)))}, {cat(all, not(cat(all, a))), cat(all, not(cat(all, a)))},
		{cat(all, cat(or(cat(all, a), cat(all, b)), c)), cat(all, cat(or(cat(all, a), cat(all, b)), c))}, {cat(all, cat(not(cat(all, a)), c)), cat(all, cat(not(cat(all, a)), c))},
		{cat(all, cat(and(cat(all, a), cat(all, b)), c)), cat(all, cat(and(cat(all, a), cat(all, b)), c))}, {cat(not(empty), not(empty)), cat(not(empty), not(empty))},
	} {
		normalises(t, x.in, x.should)
	}
}

func TestP502StarAndNot(t *testing.T) {
	for _, x := range []struct{ in, should plain }{
		{star(a), star(a)}, {star(star(a)), star(a)}, {star(star(star(or(b, a)))), star(or(a, b))}, {star(not(not(star(a)))), star(a)}, {star(cat(empty, star(a))), star(a)},
		{star(not(a)), star(not(a))}, {star(cat(all, a)), star(cat(all, a))}, {star(not(empty)), star(not(empty))}, {star(or(none, none)), empty}, {star(cat(a, none)), empty},
		{star(or(dot, all)), all}, {star(or(dot, dot)), all}, {star(or(dot, empty)), star(or(empty, dot))},
		{not(a), not(a)}, {not(not(a)), a}, {not(not(not(a))), not(a)}, {not(not(not(not(cat(a, b))))), cat(a, b)}, {not(or(none, not(a))), a}, {not(star(not(a))), not(star(not(a)))},
		{not(all), none}, {not(not(all)), all}, {not(star(not(none))), none}, {not(cat(all, all)), none}, {not(or(not(a), all)), none},
	} {
		normalises(t, x.in, x.should)
	}
}

// shuffled is each of the parts once, in an order that looks thrown.
func shuffled(parts []plain) []plain {
	out := slices.Clone(parts)
	d := dice(2027)
	for i := range out {
		j := d.below(i + 1)
		out[i], out[j] = out[j], out[i]
	}
	return out
}

// TestP502GreatTrees: as many members, parts or nodes in one another as a tree may have.
func TestP502GreatTrees(t *testing.T) {
	var words []plain
	for x := range 8 {
		for y := range 8 {
			for z := range 4 {
				words = append(words, right(api.Concat, leaf(letter('a'+byte(x))), leaf(letter('a'+byte(y))), leaf(letter('a'+byte(z)))))
			}
		}
	}
	slices.SortFunc(words, plain.order)
	back := slices.Clone(words)
	slices.Reverse(back)
	for _, kind := range []int{api.Union, api.Inter} {
		should := left(kind, words...)
		for _, parts := range [][]plain{words, back, shuffled(words), slices.Concat(words, words), slices.Concat(back, words), slices.Concat(words[:100], back, words[90:])} {
			normalises(t, left(kind, parts...), should)
			normalises(t, right(kind, parts...), should)
		}
	}
	parts := shuffled(slices.Concat(words, words, words))[:660]
	var letters []plain
	for _, w := range parts {
		letters = append(letters, w.parts[0], w.parts[1].parts[0], w.parts[1].parts[1])
	}
	normalises(t, left(api.Concat, parts...), right(api.Concat, letters...))
	normalises(t, right(api.Concat, parts...), right(api.Concat, letters...))
	normalises(t, left(api.Concat, slices.Repeat([]plain{all}, 1333)...), all)
	normalises(t, right(api.Concat, slices.Repeat([]plain{all}, 1333)...), all)
	normalises(t, left(api.Union, slices.Repeat([]plain{a}, 2000)...), a)
	normalises(t, right(api.Inter, slices.Repeat([]plain{a}, 2000)...), a)
	deep, even := a, a
	for range 1999 {
		deep, even = star(not(deep)), not(even)
	}
	normalises(t, deep, deep)
	normalises(t, even, not(a))
	normalises(t, not(even), a)
}

func TestP502Sizes(t *testing.T) {
	odd := row(2000, 5)
	normalises(t, odd, odd)           // 3999 nodes
	normalises(t, not(odd), not(odd)) // 4000
	for _, l := range [][]api.Node{row(2001, 5).list(), not(not(odd)).list(), make([]api.Node, 4001), make([]api.Node, 100000)} {
		n, e := norm.Normal(l)
		refused(t, "Normal", len(n) == 0, e, api.ErrSize)
		is, e := norm.Is(l)
		refused(t, "Is", !is, e, api.ErrSize)
	}
}
