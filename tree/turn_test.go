package tree_test

import (
	"cmp"
	"math"
	"slices"
	"testing"

	"eggbox/api"
	"eggbox/tree"
)

// compare is the order of lists by its definition.
func compare(a, b []api.Node) int {
	if len(a) != len(b) {
		return cmp.Compare(len(a), len(b))
	}
	for i := range a {
		if a[i].Kind != b[i].Kind {
			return cmp.Compare(a[i].Kind, b[i].Kind)
		}
		if a[i].Sign != b[i].Sign {
			return cmp.Compare(a[i].Sign, b[i].Sign)
		}
	}
	return 0
}

// anyLists are lists to be compared, trees and others.
func anyLists() [][]api.Node {
	a, b := letter('a'), letter('b')
	out := [][]api.Node{
		nil, {}, {a}, {b}, {a, node(api.Star)}, {b, node(api.Star)}, {a, b, node(api.Union)}, {b, a, node(api.Union)}, {a, b, node(api.Not)},
		{node(0)}, {node(-1)}, {node(math.MinInt)}, {node(math.MaxInt)}, {node(10)}, {letter(0)}, {letter(255)}, {letter(128)},
		{{Kind: 5, Sign: 9}}, {{Kind: 6, Sign: 1}}, {a, {Kind: 5, Sign: 200}}, {a, {Kind: 5, Sign: 3}}, {a, node(4)},
		{node(9), a}, {node(3), node(9)}, {node(2), letter('h')},
		flat(4000), flat(4001), chain(api.Star, 3999), chain(api.Not, 3999), chain(api.Star, 5000), make([]api.Node, 5001),
	}
	last := flat(4000)
	last[3999] = node(api.Star)
	first := flat(4000)
	first[0] = letter('b')
	return append(out, last, first)
}

func TestP305Compare(t *testing.T) {
	lists := anyLists()
	for _, p := range slices.Concat(everyTree(3)...) {
		lists = append(lists, p.list())
	}
	for _, a := range lists {
		for _, b := range lists {
			if c := tree.Compare(a, b); c != compare(a, b) {
				t.Errorf("Compare(%v, %v): %d", brief(a), brief(b), c)
			}
		}
	}
}

func TestP305Examples(t *testing.T) {
	a, b := list(letter('a')), list(letter('b'))
	star := list(letter('a'), node(api.Star))
	for _, c := range []struct {
		a, b   []api.Node
		should int
	}{{a, b, -1}, {b, a, 1}, {star, b, 1}, {b, star, -1}, {nil, nil, 0}, {nil, []api.Node{}, 0}, {nil, a, -1}, {a, nil, 1}, {a, a, 0},
		{list(node(api.Any)), b, 1}, {list(node(api.Empty)), a, -1}} {
		if got := tree.Compare(c.a, c.b); got != c.should {
			t.Errorf("Compare(%v, %v): %d, should be %d", c.a, c.b, got, c.should)
		}
	}
}

func TestP307CompareIsAnOrder(t *testing.T) {
	lists := anyLists()
	for _, a := range lists {
		for _, b := range lists {
			ab := tree.Compare(a, b)
			if ab != -tree.Compare(b, a) || (ab == 0) != slices.Equal(a, b) {
				t.Errorf("Compare(%v, %v): %d", brief(a), brief(b), ab)
			}
			for _, c := range lists {
				if ab <= 0 && tree.Compare(b, c) <= 0 && tree.Compare(a, c) != min(ab, tree.Compare(b, c)) {
					t.Errorf("%v, %v, %v are in no order", brief(a), brief(b), brief(c))
				}
			}
		}
	}
}

func TestP306Reverse(t *testing.T) {
	for _, p := range samples() {
		out, e := tree.Reverse(p.list())
		want(t, "Reverse", out, e, p.reverse().list())
	}
}

func TestP306ReverseEdges(t *testing.T) {
	for _, nodes := range []int{1, 2, 3, 3999, 4000} {
		out, e := tree.Reverse(chain(api.Star, nodes-1))
		want(t, "Reverse of a chain", out, e, chain(api.Star, nodes-1))
	}
	// a b Concat c Concat ..: each second part goes ahead of what was built so far.
	left, turned := list(letter('a')), list(letter('a'))
	for i := range 1999 {
		x := letter('a' + byte(i%8))
		left = append(left, x, node(api.Concat))
		turned = append(list(x), append(turned, node(api.Concat))...)
	}
	out, e := tree.Reverse(left)
	want(t, "Reverse of a tree that leans to the left", out, e, turned)
	out, e = tree.Reverse(turned)
	want(t, "Reverse of a tree that leans to the right", out, e, left)
	for _, kind := range []int{api.Union, api.Inter} {
		l := list(letter('a'), letter('b'), letter('c'), node(api.Concat), node(kind))
		out, e := tree.Reverse(l)
		want(t, "Reverse", out, e, list(letter('a'), letter('c'), letter('b'), node(api.Concat), node(kind)))
	}
}

func TestP306Rename(t *testing.T) {
	for _, p := range samples() {
		for _, to := range []string{"abcdefgh", "bacdefgh", "hgfedcba", "aaaaaaaa", "hhhhhhhh", "bcdefgha", "abababab"} {
			out, e := tree.Rename(p.list(), to)
			want(t, "Rename by "+to, out, e, p.rename(to).list())
		}
	}
}

func TestP306RenameRefusals(t *testing.T) {
	rename := func(l []api.Node, to string, should api.Errno) {
		t.Helper()
		out, e := tree.Rename(l, to)
		refused(t, "Rename by "+to, len(out) == 0, e, should)
	}
	good, noLetter := list(letter('a'), node(api.Star)), list(node(api.Any))
	for _, l := range [][]api.Node{good, noLetter} {
		for _, to := range []string{"", "a", "abcdefg", "abcdefga" + "b", "abcdefgi" + "j", "abcdefi", "abcdefgh\x00", string(make([]byte, 7)), string(make([]byte, 100000))} {
			rename(l, to, api.ErrArg)
		}
		for place := range 8 {
			for _, sign := range []byte{0, ' ', 'A', '`', 'i', 'z', 0x80, 0xc3, 255} {
				to := []byte("abcdefgh")
				to[place] = sign
				rename(l, string(to), api.ErrLetter)
			}
		}
		rename(l, "abcdefé", api.ErrLetter) // eight bytes, seven runes
		rename(l, "abcdefgé", api.ErrArg)   // nine bytes, eight runes
	}
	for _, to := range []string{"", "abcdefg", "abcdefghi", "abcdefgi", "abcdefgh"} {
		rename(nil, to, api.ErrTree)
		rename(list(letter('i')), to, api.ErrTree)
		rename(flat(4001), to, api.ErrSize)
	}
}

func TestP306Examples(t *testing.T) {
	a, b, star, concat := letter('a'), letter('b'), node(api.Star), node(api.Concat)
	out, e := tree.Reverse(list(a, b, star, concat))
	want(t, "Reverse", out, e, list(b, star, a, concat))
	out, e = tree.Rename(list(a, b, star, concat), "bacdefgh")
	want(t, "Rename", out, e, list(b, a, star, concat))
}

// same holds that two trees are of one depth, one number of stars and one number of nodes.
func same(t *testing.T, what string, one, two []api.Node) {
	t.Helper()
	d1, _ := tree.Depth(one)
	d2, _ := tree.Depth(two)
	s1, _ := tree.Stars(one)
	s2, _ := tree.Stars(two)
	if d1 != d2 || s1 != s2 || len(one) != len(two) {
		t.Errorf("%s of %v: depth %d, %d; stars %d, %d; nodes %d, %d", what, brief(one), d1, d2, s1, s2, len(one), len(two))
	}
}

func TestP307Turning(t *testing.T) {
	for _, p := range samples() {
		l := p.list()
		back, _ := tree.Reverse(l)
		again, e := tree.Reverse(back)
		want(t, "Reverse of Reverse", again, e, l)
		same(t, "Reverse", l, back)
	}
}

func TestP307Renaming(t *testing.T) {
	names := []string{"bacdefgh", "bcdefgha", "hgfedcba", "aabbccdd", "hhhhhhhh"}
	for _, p := range samples() {
		l := p.list()
		for _, one := range names {
			for _, two := range names {
				var both []byte
				for i := range 8 {
					both = append(both, two[one[i]-'a'])
				}
				first, _ := tree.Rename(l, one)
				second, _ := tree.Rename(first, two)
				out, e := tree.Rename(l, string(both))
				want(t, "Rename by "+one+" and "+two, second, e, out)
				same(t, "Rename", l, second)
			}
		}
	}
}
