package deriv_test

import (
	"math"
	"slices"
	"testing"

	"eggbox/api"
	"eggbox/deriv"
)

// sorted holds Classes to a string.
func sorted(t *testing.T, k int, p plain, should string) {
	t.Helper()
	if s, e := deriv.Classes(k, p.list()); s != should || e != api.OK {
		t.Errorf("Classes(%d, %v): %q, %d; should be %q", k, brief(p.list()), s, e, should)
	}
}

func TestP704Examples(t *testing.T) {
	sorted(t, 3, a, "abb")
}

func TestP704Classes(t *testing.T) {
	for _, x := range []struct{ text, should string }{
		{"0", "aaaaaaaa"}, {"1", "aaaaaaaa"}, {".", "aaaaaaaa"}, {"!0", "aaaaaaaa"}, {".*", "aaaaaaaa"},
		{"a", "abbbbbbb"}, {"b", "abaaaaaa"}, {"h", "aaaaaaah"}, {"g", "aaaaaaga"}, {"!a", "abbbbbbb"}, {"!h", "aaaaaaah"},
		{"a|b", "aacccccc"}, {"a|h", "abbbbbba"}, {"ab|b", "abcccccc"}, {"ab|cb", "ababbbbb"}, {"ab|cd", "abcbbbbb"},
		{"a|bb|ccc|dddd|eeeee|ffffff|ggggggg", "abcdefgh"}, {"a|bb|ccc|dddd|eeeee|ffffff|ggggggg|hhhhhhhh", "abcdefgh"},
		{"(a|b)*c", "aacddddd"}, {"a*", "abbbbbbb"}, {"b*", "abaaaaaa"}, {"(a|c)(b|d)", "ababbbbb"}, {"(a|b)&(b|c)", "abaaaaaa"},
	} {
		tree := parsed(t, x.text)
		for k := 1; k <= 8; k++ {
			if s, e := deriv.Classes(k, tree); s != x.should[:k] || e != api.OK {
				t.Errorf("Classes(%d, %s): %q, %d; should be %q", k, x.text, s, e, x.should[:k])
			}
		}
	}
}

func TestP704ByTheDefinition(t *testing.T) {
	for i, p := range append(samples(), complements(everyTree(2, none, empty, dot, a, b, h))...) {
		sorted(t, 3, p, p.classes(3))
		if i%5 == 0 {
			sorted(t, 8, p, p.classes(8))
			sorted(t, 1, p, "a")
		}
	}
}

// TestP704LettersPastK: letters that the tree has and k has not are no error.
func TestP704LettersPastK(t *testing.T) {
	sorted(t, 1, h, "a")
	sorted(t, 2, or(b, h), "ab")
	sorted(t, 7, cat(h, h), "aaaaaaa")
}

// TestP704Numbers: ErrLetters comes ahead of the tree's error and of all that a derivative has.
func TestP704Numbers(t *testing.T) {
	lists := slices.Concat(notTrees(), tooGreat(), [][]api.Node{a.list(), over.list(), star(row(2000)).list()})
	for _, k := range []int{0, 9, -1, 10, 255, 256, 257, 264, math.MinInt, math.MaxInt, math.MinInt32, math.MaxInt32, 1 << 32, 1<<32 + 1} {
		for _, l := range lists {
			s, e := deriv.Classes(k, l)
			refused(t, "Classes of no number of letters", s == "", e, api.ErrLetters)
		}
	}
	sorted(t, 1, a, "a")
	sorted(t, 8, a, "abbbbbbb")
}

func TestP704GreatTrees(t *testing.T) {
	sorted(t, 3, row(2000), "abb")
	sorted(t, 8, not(row(2000)), "abbbbbbb")
	sorted(t, 2, nested(a, 3999, api.Star), "ab")
	for _, p := range []plain{star(row(2000)), not(star(row(1999)))} {
		s, e := deriv.Classes(2, p.list())
		refused(t, "Classes", s == "", e, api.ErrSize)
	}
}
