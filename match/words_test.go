package match_test

import (
	"math"
	"slices"
	"testing"

	"eggbox/api"
	"eggbox/match"
)

func TestP6_4Examples(t *testing.T) {
	said(t, 2, evens, 4, []string{"", "ab", "abab"})
	said(t, 2, not(evens), 1, []string{"a", "b"})
	if got, e := match.Words(8, evens.list(), 4); len(got) != 0 || e != api.ErrSize {
		t.Errorf("Words(8, E, 4): %q, %d", got, e)
	}
}

// greatest is, for each k, the greatest n for which there are at most 1000 words over k letters with at most n letters (for one letter the greatest n that may be), and how many there are. For no k there are just 1000.
var greatest = [...]struct{ k, n, words int }{
	{1, 511, 512}, {2, 8, 511}, {3, 5, 364}, {4, 4, 341}, {5, 4, 781}, {6, 3, 259}, {7, 3, 400}, {8, 3, 585},
}

func TestP6_4AllWords(t *testing.T) {
	for _, x := range greatest {
		for _, n := range []int{0, 1, x.n - 1, x.n} {
			should := words(x.k, n)
			said(t, x.k, all, n, should)
			said(t, x.k, star(dot), n, should)
			said(t, x.k, none, n, nil)
			said(t, x.k, empty, n, []string{""})
			said(t, x.k, not(empty), n, should[1:])
		}
		if got, _ := match.Words(x.k, all.list(), x.n); len(got) != x.words {
			t.Errorf("k %d, n %d: %d words", x.k, x.n, len(got))
		}
	}
}

func TestP6_4TooMany(t *testing.T) {
	for _, x := range greatest[1:] {
		for _, n := range []int{x.n + 1, x.n + 2, 64, 63, 100, 510, 511} {
			for _, p := range []plain{none, empty, evens, all} {
				if got, e := match.Words(x.k, p.list(), n); len(got) != 0 || e != api.ErrSize {
					t.Errorf("k %d, n %d: %d words, %d", x.k, n, len(got), e)
				}
			}
		}
	}
}

func TestP6_4WrongNumbers(t *testing.T) {
	refused := func(k, n int, should api.Errno) {
		t.Helper()
		for _, p := range []plain{none, all, evens} {
			if got, e := match.Words(k, p.list(), n); len(got) != 0 || e != should {
				t.Errorf("k %d, n %d: %d words, %d; should be %d", k, n, len(got), e, should)
			}
		}
	}
	for _, k := range []int{0, 9, -1, -8, 16, 256 + 2, math.MinInt, math.MaxInt} {
		// No number of letters comes ahead of what is wrong with n.
		for _, n := range []int{-1, 0, 1, 4, 511, 512, math.MinInt, math.MaxInt} {
			refused(k, n, api.ErrLetters)
		}
	}
	for _, k := range []int{1, 2, 7, 8} {
		// So it is with n and the number of words.
		for _, n := range []int{-1, -2, -511, 512, 513, 999, 1000, 4096, math.MinInt, math.MaxInt} {
			refused(k, n, api.ErrRange)
		}
	}
	refused(2, 511, api.ErrSize)
	refused(8, 511, api.ErrSize)
}

func TestP6_4ByTheDefinition(t *testing.T) {
	for _, x := range []struct{ k, n int }{{1, 4}, {2, 0}, {2, 1}, {2, 4}, {3, 3}} {
		asked := words(x.k, x.n)
		for _, p := range samples() {
			should := p.language(asked)
			said(t, x.k, p, x.n, slices.DeleteFunc(slices.Clone(asked), func(w string) bool { return !should[w] }))
		}
	}
}

// TestP6_4ThrownTrees: the words that Member finds, of as many as there may be.
func TestP6_4ThrownTrees(t *testing.T) {
	d := dice(5)
	for _, x := range greatest[1:] {
		asked := words(x.k, x.n)
		for nodes := 1; nodes < 30; nodes += 3 {
			p := d.thrown(nodes)
			var should []string
			for _, w := range asked {
				if is, _ := match.Member(p.list(), w); is {
					should = append(should, w)
				}
			}
			said(t, x.k, p, x.n, should)
		}
	}
}

func TestP6_4OneLetter(t *testing.T) {
	powers := func(lengths []int) []string {
		var out []string
		for _, n := range lengths {
			out = append(out, times("a", n))
		}
		return out
	}
	for _, n := range []int{0, 1, 2, 63, 64, 510, 511} {
		said(t, 1, star(cat(a, a)), n, powers(between(0, n, 2)))
		said(t, 1, not(star(cat(a, a))), n, powers(between(1, n, 2)))
		said(t, 1, star(b), n, []string{""})
		said(t, 1, not(star(b)), n, powers(between(1, n, 1)))
		said(t, 1, star(left(api.Concat, 7, dot)), n, powers(between(0, n, 7)))
	}
}

// TestP6_4OtherLetters: the tree may have letters that are not among the k, which no word has.
func TestP6_4OtherLetters(t *testing.T) {
	said(t, 2, or(h, cat(a, b)), 2, []string{"ab"})
	said(t, 2, star(or(h, b)), 3, []string{"", "b", "bb", "bbb"})
	said(t, 2, not(h), 1, []string{"", "a", "b"})
	said(t, 1, h, 511, nil)
	said(t, 8, h, 3, []string{"h"})
	said(t, 7, h, 3, nil)
	said(t, 8, cat(dot, h), 2, []string{"ah", "bh", "ch", "dh", "eh", "fh", "gh", "hh"})
	said(t, 3, cat(dot, h), 2, nil)
	said(t, 3, dot, 2, []string{"a", "b", "c"})
}
