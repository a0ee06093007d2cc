package norm_test

import (
	"testing"

	"eggbox/api"
	"eggbox/norm"
)

// pairs are the calls of two trees, by their kinds; lone those of one.
var (
	pairs = map[int]func(a, b []api.Node) ([]api.Node, api.Errno){api.Union: norm.Union, api.Inter: norm.Inter, api.Concat: norm.Concat}
	lone  = map[int]func(a []api.Node) ([]api.Node, api.Errno){api.Star: norm.Star, api.Not: norm.Not}
)

// joins holds that the call of a kind answers that of those parts.
func joins(t *testing.T, should plain, kind int, parts ...plain) {
	t.Helper()
	var l []api.Node
	var e api.Errno
	if len(parts) == 1 {
		l, e = lone[kind](parts[0].list())
	} else {
		l, e = pairs[kind](parts[0].list(), parts[1].list())
	}
	if e != api.OK || !planted(l).is(should) {
		t.Errorf("kind %d of %v: %v, %d; should be %v", kind, brief(join(kind, parts...).list()), brief(l), e, brief(should.list()))
	}
}

// tooGreat holds that the call of a kind answers ErrSize of those parts.
func tooGreat(t *testing.T, kind int, parts ...plain) {
	t.Helper()
	if len(parts) == 1 {
		l, e := lone[kind](parts[0].list())
		refused(t, "one part", len(l) == 0, e, api.ErrSize)
		return
	}
	l, e := pairs[kind](parts[0].list(), parts[1].list())
	refused(t, "two parts", len(l) == 0, e, api.ErrSize)
}

func TestP503ByTheDefinition(t *testing.T) {
	some := append(everyTree(3, none, empty, dot, a, b)[3], none, empty, dot, all, a, b, star(a), not(a), star(dot), not(all), cat(cat(all, a), all), or(or(c, b), a), and(c, and(b, a)))
	for _, kind := range forks {
		for _, p := range some {
			for _, q := range some {
				joins(t, join(kind, p, q).normal(), kind, p, q)
			}
		}
	}
	for _, kind := range singles {
		for _, p := range samples() {
			joins(t, join(kind, p).normal(), kind, p)
		}
	}
}

func TestP503ThrownParts(t *testing.T) {
	d := dice(314159)
	for nodes := 4; nodes < 150; nodes++ {
		for _, kind := range forks {
			p, q := d.thrown(nodes), d.thrown(150-nodes)
			joins(t, join(kind, p, q).normal(), kind, p, q)
		}
	}
}

func TestP503Examples(t *testing.T) {
	l, e := norm.Union(list(letter('a')), list(letter('a')))
	want(t, "Union(a, a)", l, e, list(letter('a')))
	l, e = norm.Union(list(letter('b')), list(letter('a')))
	want(t, "Union(b, a)", l, e, list(letter('a'), letter('b'), node(api.Union)))
	l, e = norm.Inter(list(letter('b')), list(letter('a')))
	want(t, "Inter(b, a)", l, e, list(letter('a'), letter('b'), node(api.Inter)))
	l, e = norm.Concat(list(letter('b')), list(letter('a')))
	want(t, "Concat(b, a)", l, e, list(letter('b'), letter('a'), node(api.Concat)))
	l, e = norm.Star(list(node(api.Any)))
	want(t, "Star(.)", l, e, list(node(api.None), node(api.Not)))
	l, e = norm.Not(list(letter('b')))
	want(t, "Not(b)", l, e, list(letter('b'), node(api.Not)))
}

// TestP503JoinedTooGreat: what is joined has more than MaxNodes nodes, its normal form has not.
func TestP503JoinedTooGreat(t *testing.T) {
	odd := row(2000, 5)                      // 3999 nodes
	full, starred := not(odd), star(odd)     // 4000
	half, other := row(1000, 5), row(999, 9) // 1999, 1997
	for _, p := range []plain{odd, full, starred} {
		for _, x := range []struct {
			kind               int
			one, unit, swallow plain
		}{{api.Union, p, none, all}, {api.Inter, p, all, none}, {api.Concat, p, empty, none}} {
			joins(t, x.one, x.kind, x.one, x.unit)
			joins(t, x.one, x.kind, x.unit, x.one)
			joins(t, x.swallow, x.kind, x.one, x.swallow)
			joins(t, x.swallow, x.kind, x.swallow, x.one)
			if x.kind != api.Concat {
				joins(t, x.one, x.kind, x.one, x.one)
			}
		}
	}
	joins(t, odd, api.Not, full)
	joins(t, starred, api.Star, starred)
	joins(t, a, api.Union, left(api.Inter, repeat(a, 2000)...), left(api.Union, repeat(a, 2000)...))
	joins(t, all, api.Star, right(api.Concat, append(repeat(empty, 1999), dot)...))
	joins(t, empty, api.Star, not(left(api.Union, append(repeat(a, 1998), all)...)))
	for _, kind := range []int{api.Union, api.Inter} {
		both := join(kind, other, half)
		joins(t, both, kind, both, half)  // 3997 and 1999 nodes
		joins(t, both, kind, other, both) // 1997 and 3997
		joins(t, both, kind, both, both)
	}
	// Of 2000 nodes with All behind and 2002 with All ahead one All and its Concat fall away: 4000 are left.
	ends := behind(row(999, 5), all)
	joins(t, behind(row(999, 5), cat(all, half)), api.Concat, ends, cat(all, half))
	tooGreat(t, api.Concat, ends, cat(all, not(half)))
}

func repeat(p plain, times int) []plain {
	var out []plain
	for range times {
		out = append(out, p)
	}
	return out
}

// behind is a row with an expression behind its last letter.
func behind(row, p plain) plain {
	if row.node.Kind != api.Concat {
		return cat(row, p)
	}
	return cat(row.parts[0], behind(row.parts[1], p))
}

// TestP503NormalFormTooGreat: the greatest normal forms that are answered, and the least ones that are not.
func TestP503NormalFormTooGreat(t *testing.T) {
	odd := row(2000, 5)
	for _, kind := range singles {
		joins(t, join(kind, odd), kind, odd) // 4000 nodes
	}
	tooGreat(t, api.Star, not(odd)) // 4001
	tooGreat(t, api.Not, star(odd))
	for _, kind := range []int{api.Union, api.Inter} {
		p, q := row(1000, 5), row(1000, 11) // 1999 each
		low, high := p, q
		if p.order(q) > 0 {
			low, high = q, p
		}
		joins(t, join(kind, low, high), kind, p, q) // 3999
		joins(t, join(kind, low, high), kind, q, p)
		joins(t, join(kind, p, not(q)), kind, p, not(q)) // 4000
		joins(t, join(kind, p, not(q)), kind, not(q), p)
		joins(t, join(kind, p, not(p)), kind, not(p), p)
		tooGreat(t, kind, not(p), not(q)) // 4001
		tooGreat(t, kind, not(q), not(p))
		tooGreat(t, kind, not(p), star(p))
		tooGreat(t, kind, odd, a)
		tooGreat(t, kind, not(odd), not(row(2000, 6)))
	}
	p, q := row(1000, 5), row(1000, 11)
	joins(t, behind(p, q), api.Concat, p, q)                // 3999
	joins(t, behind(p, not(q)), api.Concat, p, not(q))      // 4000
	joins(t, cat(not(q), p), api.Concat, not(q), p)         // 4000
	tooGreat(t, api.Concat, not(p), not(q))                 // 4001
	tooGreat(t, api.Concat, odd, a)                         // 4001
	tooGreat(t, api.Concat, a, odd)                         // 4001
	tooGreat(t, api.Concat, not(odd), not(odd))             // 8001
	tooGreat(t, api.Concat, behind(p, all), cat(not(q), a)) // All is not ahead of All
}
