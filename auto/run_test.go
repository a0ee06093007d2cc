package auto_test

import (
	"math"
	"strings"
	"testing"

	"eggbox/api"
	"eggbox/auto"
)

func TestP8_2Examples(t *testing.T) {
	if e := auto.Check(bStar()); e != api.OK {
		t.Errorf("Check of A: %d", e)
	}
	if e := auto.Check(made(2, []int{1, 0, 1}, true, false)); e != api.ErrAuto {
		t.Errorf("Check of A without its last way: %d", e)
	}
	if s, e := auto.Run(bStar(), 0, "bba"); s != 1 || e != api.OK {
		t.Errorf("Run(A, 0, bba) is %d, %d", s, e)
	}
	if s, e := auto.Run(bStar(), 2, ""); s != 0 || e != api.ErrRange {
		t.Errorf("Run(A, 2, the empty word) is %d, %d", s, e)
	}
	if is, e := auto.Accepts(bStar(), "c"); is || e != api.ErrLetter {
		t.Errorf("Accepts(A, c) is %v, %d", is, e)
	}
}

// TestP8_2WordByWord: from each state, by each short word.
func TestP8_2WordByWord(t *testing.T) {
	for _, a := range samples() {
		for _, w := range someWords(a.Letters) {
			for s := range a.Accept {
				if to, e := auto.Run(a, s, w); to != leads(a, s, w) || e != api.OK {
					t.Fatalf("Run(%s, %d, %q) is %d, %d", brief(a), s, w, to, e)
				}
			}
			if is, e := auto.Accepts(a, w); is != takes(a, w) || e != api.OK {
				t.Fatalf("Accepts(%s, %q) is %v, %d", brief(a), w, is, e)
			}
		}
	}
}

func TestP8_2GreatOnes(t *testing.T) {
	a := lasso(0, 4096, 4095)
	for s, should := range map[int]int{0: 4095, 1: 0, 4094: 4093, 4095: 4094} {
		if to, e := auto.Run(a, s, strings.Repeat("a", 4095)); to != should || e != api.OK {
			t.Errorf("Run from %d is %d, %d", s, to, e)
		}
	}
	for n, should := range map[int]bool{0: false, 4094: false, 4095: true, 4096: false, 4095 + 25*4096: true} {
		if is, e := auto.Accepts(a, strings.Repeat("a", n)); is != should || e != api.OK {
			t.Errorf("Accepts of %d letters is %v, %d", n, is, e)
		}
	}
	// Eight letters, the last state and the last letter.
	b := still(8, 4096)
	b.Next[8*4096-1] = 7
	if to, e := auto.Run(b, 4095, "gh"); to != 7 || e != api.OK {
		t.Errorf("Run by the last way is %d, %d", to, e)
	}
}

// TestP8_2NoState: it comes ahead of a word that is none.
func TestP8_2NoState(t *testing.T) {
	for _, a := range samples() {
		n := len(a.Accept)
		for _, s := range []int{-1, n, n + 1, -n, 4096, math.MinInt, math.MaxInt} {
			for _, w := range []string{"", "a", "i", "a\xff"} {
				if to, e := auto.Run(a, s, w); to != 0 || e != api.ErrRange {
					t.Fatalf("Run(%s, %d, %q) is %d, %d", brief(a), s, w, to, e)
				}
			}
		}
		for _, s := range []int{0, n - 1} {
			if to, e := auto.Run(a, s, ""); to != s || e != api.OK {
				t.Fatalf("Run(%s, %d, the empty word) is %d, %d", brief(a), s, to, e)
			}
		}
	}
}

// notWords are no words over k letters: just none of them, at each place, and signs that are far from letters.
func notWords(k int) []string {
	past := string(rune('a' + k))
	last := string(rune('a' + k - 1))
	return []string{past, "`", last + past, past + last, last + past + last, "a`", "A", " ", "0", "\x00", "\x80", "\xff", "a\xff", "ä", "aａ", strings.Repeat(last, 4096) + past, past + strings.Repeat("a", 4096), "a\n"}
}

func TestP8_2NoWord(t *testing.T) {
	for k := 1; k <= 8; k++ {
		for _, a := range []api.Auto{whole(k), nothing(k), still(k, 9)} {
			last := string(rune('a' + k - 1))
			if is, e := auto.Accepts(a, last); is != a.Accept[0] || e != api.OK {
				t.Errorf("Accepts(%s, %q) is %v, %d", brief(a), last, is, e)
			}
			for _, w := range notWords(k) {
				for s := range a.Accept {
					if to, e := auto.Run(a, s, w); to != 0 || e != api.ErrLetter {
						t.Errorf("Run(%s, %d, %q) is %d, %d", brief(a), s, short(w), to, e)
					}
				}
				if is, e := auto.Accepts(a, w); is || e != api.ErrLetter {
					t.Errorf("Accepts(%s, %q) is %v, %d", brief(a), short(w), is, e)
				}
			}
		}
	}
}

func TestP8_3Examples(t *testing.T) {
	if w, found, e := auto.Least(bStar()); w != "" || !found || e != api.OK {
		t.Errorf("Least(A) is %q, %v, %d", w, found, e)
	}
	not, _ := auto.Not(bStar())
	if w, found, e := auto.Least(not); w != "a" || !found || e != api.OK {
		t.Errorf("Least(Not(A)) is %q, %v, %d", w, found, e)
	}
}

// plainLeast tries all words that may be the least one: it has fewer letters than there are states.
func plainLeast(a api.Auto) (string, bool) {
	for _, w := range words(a.Letters, len(a.Accept)-1) {
		if takes(a, w) {
			return w, true
		}
	}
	return "", false
}

func TestP8_3WordByWord(t *testing.T) {
	all := append(small(), everyAuto(2, 3)...)
	d := dice(99)
	for range 400 {
		all = append(all, d.thrown(2, 6, 6), d.thrown(3, 5, 5), d.thrown(8, 4, 4), beside(d.thrown(2, 4, 9), d.thrown(2, 3, 2)))
	}
	for _, a := range all {
		w, found, e := auto.Least(a)
		if should, is := plainLeast(a); w != should || found != is || e != api.OK {
			t.Fatalf("Least(%s) is %q, %v, %d; should be %q, %v", brief(a), w, found, e, should, is)
		}
	}
}

// TestP8_3Edges: languages that are empty, also where states that are not met are accepted, and words as long as may be.
func TestP8_3Edges(t *testing.T) {
	for k := 1; k <= 8; k++ {
		for _, a := range []api.Auto{nothing(k), beside(nothing(k), whole(k)), still(k, 4096)} {
			if w, found, e := auto.Least(a); w != "" || found || e != api.OK {
				t.Errorf("Least(%s) is %q, %v, %d", brief(a), short(w), found, e)
			}
		}
		if w, found, e := auto.Least(beside(whole(k), nothing(k))); w != "" || !found || e != api.OK {
			t.Errorf("Least of all words is %q, %v, %d", short(w), found, e)
		}
	}
	for _, n := range []int{1, 2, 63, 64, 65, 4094, 4095} {
		if w, found, e := auto.Least(lasso(n, 1, n)); w != strings.Repeat("a", n) || !found || e != api.OK {
			t.Errorf("Least of a word of %d letters has %d, %v, %d", n, len(w), found, e)
		}
	}
	d := dice(3)
	for k := 1; k <= 8; k++ {
		for _, n := range []int{0, 1, 9, 4094} {
			w := d.word(k, n)
			a, _ := auto.Word(k, w)
			if least, found, e := auto.Least(a); least != w || !found || e != api.OK {
				t.Errorf("Least of Word(%d, %q) is %q, %v, %d", k, short(w), short(least), found, e)
			}
		}
	}
}

// TestP8_3TheLeastOfSeveral: the shorter one, though a greater letter begins it; of one length the one with the lesser letter at the first place where they are unlike.
func TestP8_3TheLeastOfSeveral(t *testing.T) {
	for _, c := range []struct{ u, v, least string }{{"aaa", "bb", "bb"}, {"ba", "ab", "ab"}, {"abb", "aba", "aba"}, {"h", "aa", "h"}, {"", "a", ""}, {"cab", "bca", "bca"}, {"bbbbbbb", "aaaaaaaa", "bbbbbbb"}} {
		a, _ := auto.Word(8, c.u)
		b, _ := auto.Word(8, c.v)
		for _, p := range [][2]api.Auto{{a, b}, {b, a}} {
			both, _ := auto.Either(p[0], p[1])
			if w, found, e := auto.Least(both); w != c.least || !found || e != api.OK {
				t.Errorf("the least of %q and %q is %q, %v, %d", c.u, c.v, w, found, e)
			}
		}
	}
}
