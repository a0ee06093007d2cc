package dfa_test

import (
	"slices"
	"testing"

	"eggbox/api"
	"eggbox/auto"
	"eggbox/deriv"
	"eggbox/dfa"
	"eggbox/match"
	"eggbox/norm"
)

// listed is the list of P902, sentence by sentence, but of as many trees as the caller lets it have: the tests hold package dfa against it. large is whether a derivative answered ErrSize.
func listed(k int, t []api.Node, most int) (trees [][]api.Node, words []string, large bool) {
	n, _ := norm.Normal(t)
	trees, words = [][]api.Node{n}, []string{""}
	for i := 0; i < len(trees) && len(trees) <= most; i++ {
		for l := range k {
			d, e := deriv.Deriv(trees[i], 'a'+byte(l))
			if e == api.ErrSize {
				return trees, words, true
			}
			if find(trees, d) < 0 {
				trees = append(trees, d)
				words = append(words, words[i]+string(rune('a'+l)))
			}
		}
	}
	return trees, words, false
}

// machine is the automaton of P903, of a list that is whole.
func machine(k int, trees [][]api.Node) api.Auto {
	out := api.Auto{Letters: k}
	for _, t := range trees {
		for l := range k {
			d, _ := deriv.Deriv(t, 'a'+byte(l))
			out.Next = append(out.Next, find(trees, d))
		}
		is, _ := match.Nullable(t)
		out.Accept = append(out.Accept, is)
	}
	return out
}

// byTheDefinition holds both calls to P902 and P903; it answers whether there are not too many trees.
func byTheDefinition(t *testing.T, s sample) bool {
	t.Helper()
	trees, words, large := listed(s.k, s.tree, api.MaxDerivs)
	if large || len(trees) > api.MaxDerivs {
		refused(t, brief(s.tree), s.k, s.tree, api.ErrStates)
		return false
	}
	got, beside, e := dfa.Derivs(s.k, s.tree)
	if e != api.OK || !sameTrees(got, trees) || !slices.Equal(beside, words) {
		t.Errorf("Derivs(%d, %s): %d trees, words %q, %d; should be %d trees, words %q", s.k, brief(s.tree), len(got), beside, e, len(trees), words)
	}
	m, e := dfa.Compile(s.k, s.tree)
	if should := machine(s.k, trees); e != api.OK || !sameAuto(m, should) {
		t.Errorf("Compile(%d, %s): %v, %d; should be %v", s.k, brief(s.tree), m, e, should)
	}
	return true
}

func TestP902ByTheDefinition(t *testing.T) {
	for _, s := range small() {
		if !byTheDefinition(t, s) {
			t.Errorf("%s, k %d: too many trees", brief(s.tree), s.k)
		}
	}
	within, beyond := 0, 0
	for _, s := range append(thrown(), great()...) {
		if byTheDefinition(t, s) {
			within++
		} else {
			beyond++
		}
	}
	if within < 300 || beyond < 5 {
		t.Errorf("%d thrown expressions, and %d that have too many derivatives: too few to tell", within, beyond)
	}
}

// TestP903InOrder: the automaton is one, and its states are numbered by the words of Derivs.
func TestP903InOrder(t *testing.T) {
	for _, s := range samples() {
		m, e := dfa.Compile(s.k, s.tree)
		if e == api.ErrStates {
			continue
		}
		r, bad := auto.Reach(m)
		if e != api.OK || bad != api.OK || !sameAuto(r, m) {
			t.Fatalf("%s, k %d: the automaton %v is not in order, %d, %d", brief(s.tree), s.k, m, e, bad)
		}
		_, words, _ := dfa.Derivs(s.k, s.tree)
		for i, w := range words {
			if at, _ := auto.Run(m, 0, w); at != i {
				t.Errorf("%s, k %d: the word %q of tree %d leads to state %d", brief(s.tree), s.k, w, i, at)
			}
		}
	}
}
