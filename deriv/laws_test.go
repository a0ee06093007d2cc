package deriv_test

import (
	"slices"
	"strings"
	"testing"

	"eggbox/api"
	"eggbox/deriv"
	"eggbox/match"
	"eggbox/norm"
)

// says is whether a tree says a word, as package match has it.
func says(t *testing.T, l []api.Node, w string) bool {
	t.Helper()
	is, e := match.Member(l, w)
	if e != api.OK {
		t.Fatalf("Member(%v, %v): %d", brief(l), short(w), e)
	}
	return is
}

// follows holds the derivative of a tree by a letter to what the tree says behind that letter, word by word.
func follows(t *testing.T, l []api.Node, x byte, asked []string) {
	t.Helper()
	d, e := deriv.Deriv(l, x)
	if e == api.ErrSize {
		return
	}
	if e != api.OK {
		t.Fatalf("Deriv(%v, %c): %d", brief(l), x, e)
	}
	for _, w := range asked {
		if says(t, d, w) != says(t, l, string(x)+w) {
			t.Errorf("%v and its derivative by %c, %v, do not agree on %q", brief(l), x, brief(d), short(w))
		}
	}
}

func TestP705Deriv(t *testing.T) {
	asked := words(3, 3)
	for _, p := range append(samples(), complements(everyTree(2, none, empty, dot, a, b))...) {
		for _, x := range []byte("abc") {
			follows(t, p.list(), x, asked)
		}
	}
	for _, p := range everyTree(3, none, empty, dot, a, h) {
		follows(t, p.list(), 'h', words(8, 1))
		follows(t, p.list(), 'd', words(8, 1))
	}
}

func TestP705ThrownTrees(t *testing.T) {
	d := dice(1414213562)
	for nodes := 40; nodes < 400; nodes += 3 {
		asked := []string{"", "a", "b", "ab", d.word(2, 5), d.word(3, 20), d.word(8, 60)}
		follows(t, d.thrown(nodes).list(), 'a', asked)
		follows(t, d.rich(nodes/2).list(), 'b', asked)
	}
	for nodes := 3990; nodes <= 4000; nodes++ {
		follows(t, d.thrown(nodes).list(), 'a', []string{"", d.word(3, 10)})
	}
}

// TestP705ByALongWord: of as many letters as package match reads.
func TestP705ByALongWord(t *testing.T) {
	d := dice(173205)
	for _, text := range []string{"(ab|b)*", "!((a|b)*aa(a|b)*)", "(a|b)*a(a|b)(a|b)", "((a|b)(a|b))*&!(.*bbb.*)", "(a*b*)*", "!(!0a!0&!0b!0)"} {
		l := parsed(t, text)
		for _, w := range []string{d.word(2, 511), d.word(1, 511), strings.Repeat("ab", 255), strings.Repeat("b", 510) + "a"} {
			agrees(t, l, w)
		}
	}
	agrees(t, row(511).list(), strings.Repeat("a", 511))
	agrees(t, row(511).list(), strings.Repeat("a", 510)+"b")
}

// agrees holds that the derivative by a word says the empty word just where the tree says the word.
func agrees(t *testing.T, l []api.Node, w string) {
	t.Helper()
	d, e := deriv.By(l, w)
	if e == api.ErrSize {
		return
	}
	empty, e2 := match.Nullable(d)
	if e != api.OK || e2 != api.OK || empty != says(t, l, w) {
		t.Errorf("By(%v, %q): %v, %d, which says the empty word: %t, %d", brief(l), short(w), brief(d), e, empty, e2)
	}
}

func TestP705By(t *testing.T) {
	for i, p := range append(samples(), complements(everyTree(2, none, empty, dot, a, b))...) {
		asked := words(2, 4)
		if i%4 == 0 {
			asked = append(asked, words(3, 3)...)
		}
		for _, w := range asked {
			agrees(t, p.list(), w)
		}
	}
}

func TestP706WordsBehindWords(t *testing.T) {
	d := dice(2236067)
	for _, p := range append(samples(), complements(everyTree(2, none, empty, dot, a, b))...) {
		for _, w := range []string{"ab", "abab", d.word(2, 6), d.word(3, 5)} {
			whole, e := deriv.By(p.list(), w)
			for cut := range len(w) + 1 {
				u, e1 := deriv.By(p.list(), w[:cut])
				if e1 != api.OK {
					refused(t, "By", len(whole) == 0, e, e1)
					continue
				}
				v, e2 := deriv.By(u, w[cut:])
				if e2 != e || !slices.Equal(v, whole) {
					t.Errorf("%v by %q: %v, %d; cut at %d: %v, %d", brief(p.list()), w, brief(whole), e, cut, brief(v), e2)
				}
			}
		}
	}
}

// TestP706OneLetter: By a word of one letter is Deriv by it.
func TestP706OneLetter(t *testing.T) {
	for _, p := range append(samples(), over, full, not(full), row(2000), not(row(2000))) {
		for _, x := range []byte("abch") {
			one, e1 := deriv.Deriv(p.list(), x)
			two, e2 := deriv.By(p.list(), string(x))
			if e1 != e2 || !slices.Equal(one, two) {
				t.Errorf("%v by %c: Deriv %v, %d; By %v, %d", brief(p.list()), x, brief(one), e1, brief(two), e2)
			}
		}
	}
}

// TestP706NormalForms: the derivative of a tree is that of its normal form, and is in normal form; so are all that follow.
func TestP706NormalForms(t *testing.T) {
	trees := append(samples(), complements(everyTree(3, none, empty, dot, a))...)
	d := dice(24494897)
	for nodes := 60; nodes < 500; nodes += 4 {
		trees = append(trees, d.thrown(nodes), d.rich(nodes/3))
	}
	for _, p := range trees {
		l := p.list()
		n, e := norm.Normal(l)
		if e != api.OK {
			t.Fatalf("Normal(%v): %d", brief(l), e)
		}
		for _, w := range []string{"a", "b", "c", "ab", "abba"} {
			one, e1 := deriv.By(l, w)
			two, e2 := deriv.By(n, w)
			if e1 != e2 || !slices.Equal(one, two) {
				t.Errorf("%v by %s: %v, %d; its normal form: %v, %d", brief(l), w, brief(one), e1, brief(two), e2)
			}
			if e1 == api.ErrSize {
				continue
			}
			if is, e := norm.Is(one); !is || e != api.OK {
				t.Errorf("%v by %s: %v is no normal form: %d", brief(l), w, brief(one), e)
			}
		}
	}
}
