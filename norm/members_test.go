package norm_test

import (
	"math"
	"slices"
	"testing"

	"eggbox/api"
	"eggbox/norm"
)

// has holds that those are the members of an expression's normal form.
func has(t *testing.T, kind int, p plain, should ...plain) {
	t.Helper()
	got, e := norm.Members(kind, p.list())
	same := slices.EqualFunc(got, should, func(l []api.Node, p plain) bool { return slices.Equal(l, p.list()) })
	if e != api.OK || !same {
		t.Errorf("Members(%d, %v): %d of them, %v, %d; should be %d", kind, brief(p.list()), len(got), brief(slices.Concat(got...)), e, len(should))
	}
}

func TestP504ByTheDefinition(t *testing.T) {
	for _, p := range samples() {
		has(t, api.Union, p, membersOf(api.Union, p.normal())...)
		has(t, api.Inter, p, membersOf(api.Inter, p.normal())...)
	}
}

func TestP504Examples(t *testing.T) {
	has(t, api.Union, or(a, or(b, none)), a, b)
	has(t, api.Inter, not(none))
	has(t, api.Union, not(none), all)
	has(t, api.Inter, none, none)
}

func TestP504EachKind(t *testing.T) {
	for _, p := range []plain{empty, dot, a, cat(a, b), star(a), not(a)} {
		has(t, api.Union, p, p)
		has(t, api.Inter, p, p)
	}
	has(t, api.Union, none)
	has(t, api.Union, not(all))
	has(t, api.Union, star(dot), all)
	has(t, api.Inter, all)
	has(t, api.Inter, star(dot))
	has(t, api.Inter, not(all), none)
	has(t, api.Union, or(all, a), all)
	has(t, api.Inter, and(none, a), none)
	has(t, api.Union, and(none, a))
	has(t, api.Inter, or(all, a))
}

func TestP504InOrder(t *testing.T) {
	for _, kind := range []int{api.Union, api.Inter} {
		other := api.Union + api.Inter - kind
		has(t, kind, left(kind, d, c, b, a), a, b, c, d)
		has(t, kind, right(kind, d, c, b, a), a, b, c, d)
		has(t, kind, left(kind, cat(a, a), star(b), c, star(a), cat(a, a), c), c, star(a), star(b), cat(a, a))
		has(t, kind, join(kind, join(other, b, a), c), c, join(other, a, b))
		has(t, other, join(kind, join(other, b, a), c), join(kind, c, join(other, a, b)))
		has(t, kind, not(not(join(kind, b, a))), a, b)
		has(t, kind, star(join(kind, b, a)), star(join(kind, a, b)))
	}
	p, q := row(1000, 5), row(999, 7)
	has(t, api.Union, or(p, q), q, p)
	has(t, api.Inter, and(not(p), p), p, not(p))
	var rows []plain
	for i := range 62 {
		rows = append(rows, row(i+1, 3))
	}
	has(t, api.Union, right(api.Union, shuffled(rows)...), rows...)
}

func TestP504Kinds(t *testing.T) {
	lists := append(notTrees(), list(letter('a')), list(node(api.None)), list(letter('a'), letter('b'), node(api.Union)), make([]api.Node, 4001), row(2001, 3).list())
	for _, kind := range []int{api.None, api.Empty, api.Letter, api.Any, api.Concat, api.Star, api.Not, 0, -1, 10, 11, -5, 256 + api.Union, math.MinInt, math.MaxInt} {
		for _, l := range lists {
			m, e := norm.Members(kind, l)
			refused(t, "no kind of members", len(m) == 0, e, api.ErrArg)
		}
	}
}

func TestP504TreesErrors(t *testing.T) {
	for _, kind := range []int{api.Union, api.Inter} {
		for _, l := range notTrees() {
			m, e := norm.Members(kind, l)
			refused(t, "no tree", len(m) == 0, e, api.ErrTree)
		}
		for _, l := range [][]api.Node{make([]api.Node, 4001), row(2001, 3).list()} {
			m, e := norm.Members(kind, l)
			refused(t, "too many nodes", len(m) == 0, e, api.ErrSize)
		}
		has(t, kind, row(2000, 3), row(2000, 3))
		has(t, kind, not(row(2000, 3)), not(row(2000, 3)))
	}
}
