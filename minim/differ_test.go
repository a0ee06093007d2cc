package minim_test

import (
	"math"
	"testing"

	"eggbox/api"
	"eggbox/auto"
	"eggbox/minim"
)

// differs holds Differ's answer to a word, whether there is one, and OK.
func differs(t *testing.T, a api.Auto, s, u int, should string, found bool) {
	t.Helper()
	w, is, e := minim.Differ(a, s, u)
	if w != should || is != found || e != api.OK {
		t.Errorf("Differ of %s, %d and %d, is %q, %v, %d; should be %q, %v", brief(a), s, u, short(w), is, e, short(should), found)
	}
}

func TestP10_4Examples(t *testing.T) {
	differs(t, odd(), 0, 2, "", false)
	differs(t, odd(), 0, 1, "", true)
	if w, found, e := minim.Differ(odd(), 0, 4); w != "" || found || e != api.ErrRange {
		t.Errorf("Differ(A, 0, 4) is %q, %v, %d", w, found, e)
	}
	word, _ := auto.Word(2, "ab")
	differs(t, word, 0, 1, "b", true)
}

func TestP10_4Differ(t *testing.T) {
	for _, a := range samples() {
		far := lengths(a)
		for s := range a.Accept {
			for u := range a.Accept {
				w, found := plainDiffer(a, far, s, u)
				differs(t, a, s, u, w, found)
			}
		}
	}
}

// TestP10_4AndClasses: there is a word just where Classes parts the two.
func TestP10_4AndClasses(t *testing.T) {
	for _, a := range samples() {
		classes, _ := minim.Classes(a)
		for s := range a.Accept {
			for u := range a.Accept {
				if w, found, e := minim.Differ(a, s, u); found == (classes[s] == classes[u]) || e != api.OK || !found && w != "" {
					t.Errorf("Differ of %s, %d and %d, is %q, %v, %d; the classes are %s", brief(a), s, u, w, found, e, shortList(classes))
				}
			}
		}
	}
}

// TestP10_4TheSameState: also where the two are only equal.
func TestP10_4TheSameState(t *testing.T) {
	d := dice(12)
	for k := 1; k <= 8; k++ {
		a := d.thrown(k, 50, 4)
		twice := beside(a, a)
		for s := range a.Accept {
			differs(t, twice, s, s, "", false)
			differs(t, twice, s, s+50, "", false)
			differs(t, twice, s+50, s, "", false)
		}
	}
}

// TestP10_4LesserLetters: of words of one length the one with the lesser letters, also where a shorter way to two states is joined later.
func TestP10_4LesserLetters(t *testing.T) {
	d := dice(77)
	for range 3000 {
		k := 2 + d.below(7)
		a := d.thrown(k, 6+d.below(30), 30)
		a.Accept[len(a.Accept)-1] = true
		far := lengths(a)
		for range 5 {
			s, u := d.below(len(a.Accept)), d.below(len(a.Accept))
			w, found := plainDiffer(a, far, s, u)
			differs(t, a, s, u, w, found)
			differs(t, a, u, s, w, found)
		}
	}
}

func TestP10_4NoState(t *testing.T) {
	for _, a := range great() {
		n := len(a.Accept)
		for _, bad := range []int{-1, -2, n, n + 1, 4096, math.MaxInt, math.MinInt} {
			for _, p := range [][2]int{{bad, 0}, {0, bad}, {bad, n - 1}, {n - 1, bad}, {bad, bad}, {-1, n}, {n, -1}} {
				if w, found, e := minim.Differ(a, p[0], p[1]); w != "" || found || e != api.ErrRange {
					t.Errorf("Differ of %s, %d and %d, is %q, %v, %d", brief(a), p[0], p[1], w, found, e)
				}
			}
		}
	}
}

// TestP10_9Apart: the word has fewer letters than there are states, is accepted from just one, and no word ahead of it is; without a word, none is.
func TestP10_9Apart(t *testing.T) {
	for _, a := range samples() {
		all := words(a.Letters, fewWords(a.Letters))
		for s := range a.Accept {
			for u := range s {
				w, found, _ := minim.Differ(a, s, u)
				if len(w) >= len(a.Accept) || (says(a, s, w) != says(a, u, w)) != found {
					t.Errorf("Differ of %s, %d and %d, is %q, %v", brief(a), s, u, w, found)
				}
				for _, v := range all {
					if found && v == w {
						break
					}
					if says(a, s, v) != says(a, u, v) {
						t.Errorf("Differ of %s, %d and %d, is %q, %v; ahead of it is %q", brief(a), s, u, w, found, v)
					}
				}
			}
		}
	}
}
