package auto_test

import (
	"strings"
	"testing"

	"eggbox/api"
	"eggbox/auto"
)

func TestP8_4Reach(t *testing.T) {
	for _, a := range append(samples(), everyAuto(2, 3)...) {
		got, e := auto.Reach(a)
		gives(t, "Reach of "+brief(a), got, e, plainReach(a))
	}
}

func TestP8_4Edges(t *testing.T) {
	for _, a := range []api.Auto{bStar(), whole(1), nothing(8), lasso(0, 4096, 1), lasso(4095, 1, 0)} {
		got, e := auto.Reach(a)
		gives(t, "Reach of "+brief(a), got, e, a)
		if len(a.Accept) < 4000 {
			got, e = auto.Reach(beside(a, still(a.Letters, 70)))
			gives(t, "Reach with states that are not met", got, e, a)
		}
	}
	// All states but the first one are not met.
	got, e := auto.Reach(still(8, 4096))
	gives(t, "Reach of states that stay", got, e, nothing(8))
	// The numbers are turned round: 0 leads to the last one, that to the one ahead of it.
	back := lasso(0, 4096, 1)
	for s := range back.Next {
		back.Next[s] = (s + 4095) % 4096
	}
	got, e = auto.Reach(back)
	gives(t, "Reach of a ring that turns back", got, e, lasso(0, 4096, 4095))
	// b leads to the lesser number, but a's state comes first.
	got, e = auto.Reach(made(2, []int{2, 1, 1, 2, 0, 0}, false, true, false))
	gives(t, "Reach of two states out of order", got, e, made(2, []int{1, 2, 0, 0, 2, 1}, false, false, true))
}

func TestP8_5Examples(t *testing.T) {
	got, e := auto.Word(2, "b")
	gives(t, "Word(2, b)", got, e, made(2, []int{1, 2, 1, 1, 1, 1}, false, false, true))
}

func TestP8_5Word(t *testing.T) {
	for k := 1; k <= 8; k++ {
		for _, w := range someWords(k) {
			got, e := auto.Word(k, w)
			gives(t, "Word of "+w, got, e, plainWord(k, w))
			if len(got.Accept) != len(w)+2 {
				t.Errorf("Word of %q has %d states", w, len(got.Accept))
			}
			for _, v := range someWords(k) {
				if takes(got, v) != (v == w) {
					t.Fatalf("Word of %q: %q is wrong", w, v)
				}
			}
		}
	}
}

func TestP8_5Edges(t *testing.T) {
	got, e := auto.Word(1, "")
	gives(t, "Word(1, the empty word)", got, e, made(1, []int{1, 1}, true, false))
	got, e = auto.Word(8, "")
	gives(t, "Word(8, the empty word)", got, e, made(8, []int{1, 1, 1, 1, 1, 1, 1, 1, 1, 1, 1, 1, 1, 1, 1, 1}, true, false))
	d := dice(7)
	for k := 1; k <= 8; k++ {
		long := d.word(k, 4094)
		got, e := auto.Word(k, long)
		has(t, "Word of 4094 letters", got, e, 4096)
		for w, should := range map[string]bool{long: true, long[1:]: false, long[:4093]: false, long + "a": false, "": false} {
			if takes(got, w) != should {
				t.Errorf("Word of 4094 letters of %d: a word of %d letters is wrong", k, len(w))
			}
		}
		for _, n := range []int{4095, 4096, 10000} {
			got, e = auto.Word(k, d.word(k, n))
			refused(t, "Word of more letters", got, e, api.ErrSize)
		}
	}
}

// TestP8_5SeveralErrors: no number of letters, then a letter that is none, then too many.
func TestP8_5SeveralErrors(t *testing.T) {
	for _, k := range []int{0, 9, -1, 1 << 62, -1 << 63} {
		for _, w := range []string{"", "a", "i", "\xff", strings.Repeat("a", 4095), strings.Repeat("i", 5000)} {
			got, e := auto.Word(k, w)
			refused(t, "Word of no number of letters", got, e, api.ErrLetters)
		}
	}
	for k := 1; k <= 8; k++ {
		for _, w := range notWords(k) {
			got, e := auto.Word(k, w)
			refused(t, "Word of "+short(w), got, e, api.ErrLetter)
		}
		got, e := auto.Word(k, strings.Repeat("a", 4094)+string(rune('a'+k)))
		refused(t, "Word of too many letters, the last one none", got, e, api.ErrLetter)
	}
}

func TestP8_6Not(t *testing.T) {
	for _, a := range samples() {
		got, e := auto.Not(a)
		gives(t, "Not of "+brief(a), got, e, plainNot(a))
	}
	for k := 1; k <= 8; k++ {
		got, e := auto.Not(beside(whole(k), nothing(k)))
		gives(t, "Not of all words", got, e, nothing(k))
		got, e = auto.Not(beside(nothing(k), whole(k)))
		gives(t, "Not of no word", got, e, whole(k))
	}
	got, e := auto.Not(lasso(4095, 1, 4095))
	should := lasso(4095, 1)
	for s := range 4095 {
		should.Accept[s] = true
	}
	gives(t, "Not of 4096 states", got, e, should)
}

func TestP8_7Pairs(t *testing.T) {
	for _, p := range samplePairs() {
		a, b := p[0], p[1]
		name := " of " + brief(a) + " and " + brief(b)
		got, e := auto.Both(a, b)
		gives(t, "Both"+name, got, e, plainPairs(a, b, func(first, second bool) bool { return first && second }))
		got, e = auto.Either(a, b)
		gives(t, "Either"+name, got, e, plainPairs(a, b, func(first, second bool) bool { return first || second }))
		got, e = auto.But(a, b)
		gives(t, "But"+name, got, e, plainPairs(a, b, func(first, second bool) bool { return first && !second }))
	}
}

func TestP8_7Edges(t *testing.T) {
	for k := 1; k <= 8; k++ {
		for _, c := range []struct {
			call                   func(a, b api.Auto) (api.Auto, api.Errno)
			whole, left, right, no bool
		}{{auto.Both, true, false, false, false}, {auto.Either, true, true, true, false}, {auto.But, false, true, false, false}} {
			for _, p := range []struct{ first, second, is bool }{{true, true, c.whole}, {true, false, c.left}, {false, true, c.right}, {false, false, c.no}} {
				got, e := c.call(made(k, make([]int, k), p.first), made(k, make([]int, k), p.second))
				gives(t, "a product of one state by one", got, e, made(k, make([]int, k), p.is))
			}
		}
	}
}

func TestP8_11Examples(t *testing.T) {
	got, e := auto.Ahead(bStar(), "a")
	gives(t, "Ahead(A, a)", got, e, made(2, []int{0, 0}, false))
	got, e = auto.Ahead(bStar(), "bb")
	gives(t, "Ahead(A, bb)", got, e, bStar())
	got, e = auto.Behind(bStar(), "a")
	gives(t, "Behind(A, a)", got, e, made(2, []int{1, 0, 1, 1}, false, false))
	got, e = auto.Behind(bStar(), "b")
	gives(t, "Behind(A, b)", got, e, bStar())
}

func TestP8_11AheadAndBehind(t *testing.T) {
	for _, a := range samples() {
		for _, w := range words(a.Letters, [...]int{0, 6, 3, 2, 2, 1, 1, 1, 1}[a.Letters]) {
			got, e := auto.Ahead(a, w)
			gives(t, "Ahead of "+brief(a)+" by "+w, got, e, plainAhead(a, w))
			got, e = auto.Behind(a, w)
			gives(t, "Behind of "+brief(a)+" by "+w, got, e, plainBehind(a, w))
		}
	}
}

// TestP8_11LongWords: words that are longer than there are states, and than any word that is made.
func TestP8_11LongWords(t *testing.T) {
	d := dice(12)
	for k := 1; k <= 8; k++ {
		for _, n := range []int{20, 4096, 20000} {
			a, w := d.thrown(k, 8, 2), d.word(k, n)
			got, e := auto.Ahead(a, w)
			gives(t, "Ahead of "+brief(a)+" by "+short(w), got, e, plainAhead(a, w))
			got, e = auto.Behind(a, w)
			gives(t, "Behind of "+brief(a)+" by "+short(w), got, e, plainBehind(a, w))
		}
	}
	a := lasso(0, 4096, 0)
	got, e := auto.Ahead(a, strings.Repeat("a", 4095))
	gives(t, "Ahead of a ring", got, e, lasso(0, 4096, 1))
	got, e = auto.Behind(a, strings.Repeat("a", 4095))
	gives(t, "Behind of a ring", got, e, lasso(0, 4096, 1))
}

func TestP8_11NoWord(t *testing.T) {
	for k := 1; k <= 8; k++ {
		for _, a := range []api.Auto{whole(k), still(k, 7)} {
			for _, w := range notWords(k) {
				got, e := auto.Ahead(a, w)
				refused(t, "Ahead by "+short(w), got, e, api.ErrLetter)
				got, e = auto.Behind(a, w)
				refused(t, "Behind by "+short(w), got, e, api.ErrLetter)
			}
		}
	}
}
