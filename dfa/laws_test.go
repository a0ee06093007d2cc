package dfa_test

import (
	"testing"

	"eggbox/api"
	"eggbox/auto"
	"eggbox/deriv"
	"eggbox/dfa"
	"eggbox/match"
	"eggbox/norm"
	"eggbox/word"
)

// TestP904Unlike: no tree stands there twice, each is in normal form, and the words rise.
func TestP904Unlike(t *testing.T) {
	for _, s := range samples() {
		trees, words, _ := dfa.Derivs(s.k, s.tree)
		for i, d := range trees {
			if at := find(trees, d); at != i {
				t.Errorf("%s, k %d: tree %d is tree %d again", brief(s.tree), s.k, i, at)
			}
			if is, e := norm.Is(d); !is || e != api.OK {
				t.Errorf("%s, k %d: tree %d is in no normal form, %d", brief(s.tree), s.k, i, e)
			}
			if i == 0 {
				continue
			}
			if order, e := word.Compare(s.k, words[i-1], words[i]); order != -1 || e != api.OK {
				t.Errorf("%s, k %d: the word %q stands behind %q", brief(s.tree), s.k, words[i], words[i-1])
			}
		}
	}
}

// TestP904Least: each short word leads to a tree that is there, with a word that is no greater; each word leads to its own tree.
func TestP904Least(t *testing.T) {
	for _, s := range samples() {
		trees, words, e := dfa.Derivs(s.k, s.tree)
		if e != api.OK {
			continue
		}
		for i, w := range words {
			if d, e := deriv.By(s.tree, w); e != api.OK || find(trees, d) != i {
				t.Errorf("%s, k %d: the word %q of tree %d leads to another one, %d", brief(s.tree), s.k, w, i, e)
			}
		}
		for _, w := range someWords(s.k) {
			d, e := deriv.By(s.tree, w)
			at := find(trees, d)
			if e != api.OK || at < 0 {
				t.Fatalf("%s, k %d: no tree for the word %q, %d", brief(s.tree), s.k, w, e)
			}
			if order, _ := word.Compare(s.k, words[at], w); order > 0 {
				t.Errorf("%s, k %d: beside tree %d stands %q, and %q leads to it", brief(s.tree), s.k, at, words[at], w)
			}
		}
	}
}

// reads holds an expression's automaton to what the expression says of these words.
func reads(t *testing.T, k int, l []api.Node, words ...string) {
	t.Helper()
	m, e := dfa.Compile(k, l)
	if e != api.OK {
		t.Errorf("Compile(%d, %s): %d", k, brief(l), e)
		return
	}
	for _, w := range words {
		is, e := auto.Accepts(m, w)
		if says, bad := match.Member(l, w); is != says || e != api.OK || bad != api.OK {
			t.Errorf("%s, k %d: the automaton says %t of %q, the expression %t; %d, %d", brief(l), k, is, w, says, e, bad)
		}
	}
}

func TestP905WordByWord(t *testing.T) {
	d := dice(299792458)
	for _, s := range samples() {
		if _, e := dfa.Compile(s.k, s.tree); e == api.ErrStates {
			continue
		}
		reads(t, s.k, s.tree, append(someWords(s.k), d.word(s.k, 5+d.below(20)), d.word(s.k, 20+d.below(30)))...)
	}
}

// TestP905Texts: expressions as one writes them, with words of all lengths that they were written for.
func TestP905Texts(t *testing.T) {
	d := dice(314159265)
	for _, x := range []struct {
		k    int
		text string
	}{
		{2, "(ab)*"}, {2, "(aa)*"}, {2, ".*b.*"}, {2, ".*ab"}, {2, "(b|ab*a)*&(a|ba*b)*"}, {2, "a|ab|bba"}, {2, "!(a|ab|bba)"},
		{3, ".*a.*b.*c.*"}, {3, "!(.*aa.*)&!(.*bb.*)&!(.*cc.*)"}, {3, "(a|b)*-(b|c)*"}, {3, "(a(bc)*|c)*b?"}, {2, ".*a....."},
		{8, "(a|b|c|d)*(e|f|g|h)*"}, {8, "!(.*(ah|ha).*)"}, {8, "(abcdefgh)*"}, {1, "(aaa)*|(aaaa)*"}, {1, "!((aaa)*(aaaaa)*)"},
	} {
		l := parsed(t, x.k, x.text)
		_, words, _ := dfa.Derivs(x.k, l)
		for i := range words {
			words = append(words, words[i]+words[i/2])
		}
		for range 20 {
			words = append(words, d.word(x.k, d.below(60)))
		}
		reads(t, x.k, l, append(words, someWords(x.k)...)...)
	}
}
