package dfa_test

import (
	"slices"
	"testing"

	"eggbox/api"
	"eggbox/dfa"
)

func TestP902Examples(t *testing.T) {
	for _, x := range []struct {
		k     int
		text  string
		trees []string
		words []string
	}{
		{2, "(ab)*", []string{"(ab)*", "b(ab)*", "0"}, []string{"", "a", "b"}},
		{1, "0", []string{"0"}, []string{""}},
		{1, "a*", []string{"a*"}, []string{""}},
	} {
		lists(t, x.k, x.text, x.trees, x.words)
	}
}

// lists holds Derivs to trees and words, written out by hand.
func lists(t *testing.T, k int, text string, trees, words []string) {
	t.Helper()
	got, beside, e := dfa.Derivs(k, parsed(t, k, text))
	var should [][]api.Node
	for _, x := range trees {
		should = append(should, parsed(t, k, x))
	}
	if e != api.OK || !sameTrees(got, should) || !slices.Equal(beside, words) {
		var texts []string
		for _, d := range got {
			texts = append(texts, brief(d))
		}
		t.Errorf("Derivs(%d, %s): %q, %q, %d; should be %q, %q", k, text, texts, beside, e, trees, words)
	}
}

// TestP902Lists: the trees as they are met, letters in order, each of them once; what is handed in need be in no normal form.
func TestP902Lists(t *testing.T) {
	for _, x := range []struct {
		k     int
		text  string
		trees []string
		words []string
	}{
		{1, "1", []string{"1", "0"}, []string{"", "a"}},
		{8, "1", []string{"1", "0"}, []string{"", "a"}},
		{8, "0", []string{"0"}, []string{""}},
		{8, "!0", []string{"!0"}, []string{""}},
		{2, ".*", []string{"!0"}, []string{""}},
		{1, ".*", []string{"!0"}, []string{""}},
		{2, "!.*", []string{"0"}, []string{""}},
		{1, "a", []string{"a", "1", "0"}, []string{"", "a", "aa"}},
		{2, "a", []string{"a", "1", "0"}, []string{"", "a", "b"}},
		{2, "b", []string{"b", "0", "1"}, []string{"", "a", "b"}},
		{8, "h", []string{"h", "0", "1"}, []string{"", "a", "h"}},
		{3, ".", []string{".", "1", "0"}, []string{"", "a", "aa"}},
		{2, "!a", []string{"!a", "!1", "!0"}, []string{"", "a", "b"}},
		{2, "a*b", []string{"a*b", "1", "0"}, []string{"", "b", "ba"}},
		{2, "ab|ba", []string{"ab|ba", "b", "a", "0", "1"}, []string{"", "a", "b", "aa", "ab"}},
		{3, "ac|bc", []string{"ac|bc", "c", "0", "1"}, []string{"", "a", "c", "ac"}},
		{2, ".*ab", []string{"!0(ab)", "b|!0(ab)", "1|!0(ab)"}, []string{"", "a", "ab"}},
		{2, "b|a|b|a", []string{"a|b", "1", "0"}, []string{"", "a", "aa"}},
		{2, "!!((a*)*)", []string{"a*", "0"}, []string{"", "b"}},
		{2, "(ab)a(ba)", []string{"a(b(a(ba)))", "b(a(ba))", "0", "a(ba)", "ba", "a", "1"}, []string{"", "a", "b", "ab", "aba", "abab", "ababa"}},
		{2, "a&b", []string{"a&b", "0"}, []string{"", "a"}},
		{2, "(aa)*&(a|b)*", []string{"(aa)*&(a|b)*", "(a|b)*&a(aa)*", "0"}, []string{"", "a", "b"}},
	} {
		lists(t, x.k, x.text, x.trees, x.words)
	}
}

// compiles holds Compile to an automaton, written out by hand.
func compiles(t *testing.T, k int, text string, next []int, accept ...bool) {
	t.Helper()
	m, e := dfa.Compile(k, parsed(t, k, text))
	if e != api.OK || !sameAuto(m, api.Auto{Letters: k, Next: next, Accept: accept}) {
		t.Errorf("Compile(%d, %s): %v, %d; should have the ways %v and accept %v", k, text, m, e, next, accept)
	}
}

func TestP903Examples(t *testing.T) {
	compiles(t, 2, "(ab)*", []int{1, 2, 2, 0, 2, 2}, true, false, false)
	compiles(t, 1, "0", []int{0}, false)
	compiles(t, 1, "a*", []int{0}, true)
}

func TestP903Automata(t *testing.T) {
	compiles(t, 1, "1", []int{1, 1}, true, false)
	compiles(t, 8, "0", make([]int, 8), false)
	compiles(t, 8, "!0", make([]int, 8), true)
	compiles(t, 8, ".*", make([]int, 8), true)
	compiles(t, 8, "1", slices.Repeat([]int{1}, 16), true, false)
	compiles(t, 1, "a", []int{1, 2, 2}, false, true, false)
	compiles(t, 2, "b", []int{1, 2, 1, 1, 1, 1}, false, false, true)
	compiles(t, 8, "h", append([]int{1, 1, 1, 1, 1, 1, 1, 2}, slices.Repeat([]int{1}, 16)...), false, false, true)
	compiles(t, 2, "!a", []int{1, 2, 2, 2, 2, 2}, true, false, true)
	compiles(t, 2, ".*ab", []int{1, 0, 1, 2, 1, 0}, false, false, true)
	compiles(t, 1, "(aaa)*", []int{1, 2, 0}, true, false, false)
	compiles(t, 3, "a*(b|c)", []int{0, 1, 1, 2, 2, 2, 2, 2, 2}, false, true, false)
	// Trees that are unlike are states of their own, even if they say the same.
	compiles(t, 2, "a&b", []int{1, 1, 1, 1}, false, false)
}

// TestP902DeepForms: only the tree that is handed in may not be too deep; normal forms and derivatives lean, and may be.
func TestP902DeepForms(t *testing.T) {
	has(t, "150 letters a", 1, times(150, 'a'), 152)
	has(t, "150 letters a, and then a star", 2, cat(times(150, 'a'), star(cat(b, a))), 152)
	has(t, "all words of three letters", 8, even(api.Union, rows(words(8, 3)[73:])...), 5)
}
