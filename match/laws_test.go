package match_test

import (
	"testing"

	"eggbox/api"
	"eggbox/bits"
	"eggbox/match"
	"eggbox/norm"
)

// someWords are words to hold laws on: the empty one, short ones, and one of more places than a word of a set has.
func someWords() []string {
	d := dice(4711)
	return []string{"", "a", "b", "ab", "baa", "abab", "aabbcab", d.word(3, 12), d.word(8, 20), d.word(2, 70)}
}

func TestP6_5OneAnswer(t *testing.T) {
	for _, p := range samples() {
		for _, w := range someWords()[:8] {
			is, e1 := match.Member(p.list(), w)
			ends, e2 := match.Ends(p.list(), w, 0)
			if e1 != api.OK || e2 != api.OK || is != bits.Has(ends, len(w)) {
				t.Errorf("%v, %q: Member %t, %d; Ends %v, %d", p.list(), w, is, e1, bits.List(ends), e2)
			}
		}
		is, e1 := match.Member(p.list(), "")
		nullable, e2 := match.Nullable(p.list())
		if e1 != api.OK || e2 != api.OK || is != nullable {
			t.Errorf("%v: Member %t, %d; Nullable %t, %d", p.list(), is, e1, nullable, e2)
		}
	}
}

// moved holds that what is ahead of a word moves its ends and does nothing else.
func moved(t *testing.T, p plain, ahead, w string) {
	t.Helper()
	for i := range len(w) + 1 {
		own, e1 := match.Ends(p.list(), w, i)
		behind, e2 := match.Ends(p.list(), ahead+w, len(ahead)+i)
		if e1 != api.OK || e2 != api.OK || behind != bits.Shift(own, len(ahead)) {
			t.Errorf("%v in %q from %d on: %v, %d; behind %d letters: %v, %d", brief(p.list()), short(w), i, bits.List(own), e1, len(ahead), bits.List(behind), e2)
		}
	}
}

func TestP6_5Pieces(t *testing.T) {
	for _, p := range samples() {
		moved(t, p, "b", "aabab")
		moved(t, p, "abba", "babb")
	}
	d := dice(99)
	for nodes := 5; nodes < 60; nodes++ {
		p := d.thrown(nodes)
		for _, w := range someWords() {
			moved(t, p, d.word(2, 1+d.below(100)), w)
		}
		moved(t, p, d.word(3, 505), d.word(2, 6))
	}
}

// TestP6_5WhatIsBehind: what follows a piece changes none of the ends in it.
func TestP6_5WhatIsBehind(t *testing.T) {
	d := dice(13)
	inside, _ := bits.Below(21)
	for nodes := 3; nodes < 80; nodes++ {
		p := d.thrown(nodes)
		w := d.word(2, 20)
		for i := range 21 {
			own, e1 := match.Ends(p.list(), w, i)
			longer, e2 := match.Ends(p.list(), w+d.word(2, 1+d.below(100)), i)
			if e1 != api.OK || e2 != api.OK || own != bits.Inter(longer, inside) {
				t.Errorf("%v in %q from %d on: %v, %d; with more behind it %v, %d", p.list(), w, i, bits.List(own), e1, bits.List(longer), e2)
			}
		}
	}
}

// pairs are expressions, two by two, small ones with one another and thrown ones.
func pairs() [][2]plain {
	some := append(everyTree(2, none, empty, dot, a, b), all, cat(a, b), cat(all, b), or(a, empty), star(cat(a, b)), star(or(a, cat(b, a))), not(cat(a, all)))
	var out [][2]plain
	for _, p := range some {
		for _, q := range some {
			out = append(out, [2]plain{p, q})
		}
	}
	d := dice(271828)
	for nodes := 3; nodes < 100; nodes++ {
		out = append(out, [2]plain{d.thrown(nodes), d.thrown(nodes/2 + 1)})
	}
	return out
}

// TestP6_6Sets: what Union, Inter and Not derive is, set by set, the union, the intersection, and what is left.
func TestP6_6Sets(t *testing.T) {
	for _, pair := range pairs() {
		for _, w := range someWords() {
			for _, i := range []int{0, len(w) / 2, len(w)} {
				p, _ := match.Ends(pair[0].list(), w, i)
				q, _ := match.Ends(pair[1].list(), w, i)
				below, _ := bits.Below(len(w) + 1)
				ahead, _ := bits.Below(i)
				ends(t, or(pair[0], pair[1]), w, i, bits.List(bits.Union(p, q)))
				ends(t, and(pair[0], pair[1]), w, i, bits.List(bits.Inter(p, q)))
				ends(t, not(pair[0]), w, i, bits.List(bits.Minus(bits.Minus(below, ahead), p)))
			}
		}
	}
}

func TestP6_6Laws(t *testing.T) {
	for _, pair := range pairs() {
		p, q := pair[0], pair[1]
		for _, w := range someWords()[3:8] {
			alike(t, not(not(p)), p, w)
			alike(t, or(p, q), or(q, p), w)
			alike(t, and(p, q), and(q, p), w)
			alike(t, not(or(p, q)), and(not(p), not(q)), w)
			alike(t, not(and(p, q)), or(not(p), not(q)), w)
			alike(t, or(p, not(p)), all, w)
			alike(t, and(p, not(p)), none, w)
			alike(t, or(p, and(p, q)), p, w)
			alike(t, or(p, none), p, w)
			alike(t, and(p, all), p, w)
		}
	}
}

func TestP6_7Star(t *testing.T) {
	var ps []plain
	for _, pair := range pairs() {
		ps = append(ps, pair[0])
	}
	for _, s := range stars() {
		ps = append(ps, s.p, s.p.parts[0], not(s.p))
	}
	for _, p := range ps {
		for _, w := range someWords()[:9] {
			alike(t, star(p), or(empty, cat(p, star(p))), w)
			alike(t, star(p), or(empty, cat(star(p), p)), w)
		}
		w := someWords()[7]
		alike(t, star(star(p)), star(p), w)
		alike(t, cat(star(p), star(p)), star(p), w)
	}
}

func TestP6_7Concat(t *testing.T) {
	d := dice(161803)
	for _, pair := range pairs() {
		p, q, r := pair[0], pair[1], d.thrown(1+d.below(12))
		for _, w := range someWords()[4:8] {
			alike(t, cat(p, or(q, r)), or(cat(p, q), cat(p, r)), w)
			alike(t, cat(or(p, q), r), or(cat(p, r), cat(q, r)), w)
			alike(t, cat(cat(p, q), r), cat(p, cat(q, r)), w)
			alike(t, cat(empty, p), p, w)
			alike(t, cat(p, empty), p, w)
			alike(t, cat(none, p), none, w)
			alike(t, cat(p, none), none, w)
		}
	}
}

// TestP506TheNormalFormSaysTheSame holds package norm against this one.
func TestP506TheNormalFormSaysTheSame(t *testing.T) {
	same := func(l []api.Node, w string) {
		t.Helper()
		n, e := norm.Normal(l)
		if e != api.OK {
			t.Fatalf("Normal(%v): %d", brief(l), e)
		}
		one, e1 := match.Ends(l, w, 0)
		two, e2 := match.Ends(n, w, 0)
		if one != two || e1 != api.OK || e2 != api.OK {
			t.Errorf("%v in %q: %v, %d; its normal form: %v, %d", brief(l), short(w), bits.List(one), e1, bits.List(two), e2)
		}
	}
	for _, p := range samples() {
		for _, w := range someWords() {
			same(p.list(), w)
		}
	}
	d := dice(8128)
	for nodes := 40; nodes < 400; nodes++ {
		same(d.thrown(nodes).list(), d.word(3, 1+d.below(40)))
	}
	for nodes := 3990; nodes <= 4000; nodes++ {
		same(d.thrown(nodes).list(), d.word(3, 30))
	}
}
