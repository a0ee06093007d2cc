package auto_test

import (
	"testing"

	"eggbox/api"
	"eggbox/auto"
)

func TestP8_8Examples(t *testing.T) {
	got, e := auto.Reverse(bStar())
	gives(t, "Reverse(A)", got, e, made(2, []int{1, 0, 1, 1}, true, false))
}

func TestP8_8Reverse(t *testing.T) {
	for _, a := range append(samples(), everyAuto(2, 3)...) {
		got, e := auto.Reverse(a)
		gives(t, "Reverse of "+brief(a), got, e, plainReverse(a))
	}
}

// TestP8_8StatesThatAreNotMet: they are states of the sets, as all accepted ones are.
func TestP8_8StatesThatAreNotMet(t *testing.T) {
	// The state 1 is accepted, not met, and leads to 0 by b; 0 is not accepted.
	got, e := auto.Reverse(made(2, []int{0, 0, 1, 0}, false, true))
	gives(t, "Reverse of no word", got, e, made(2, []int{0, 1, 1, 1}, false, false))
	// Its set {1}, and the empty one behind it, are two that accept nothing: they are not made one.
	got, e = auto.Reverse(nothing(2))
	gives(t, "Reverse of no word by one state", got, e, nothing(2))
}

func TestP8_8Edges(t *testing.T) {
	for k := 1; k <= 8; k++ {
		got, e := auto.Reverse(whole(k))
		gives(t, "Reverse of all words", got, e, whole(k))
		got, e = auto.Reverse(nothing(k))
		gives(t, "Reverse of no word", got, e, nothing(k))
	}
}

func TestP8_9Concat(t *testing.T) {
	for _, p := range samplePairs() {
		got, e := auto.Concat(p[0], p[1])
		gives(t, "Concat of "+brief(p[0])+" and "+brief(p[1]), got, e, plainConcat(p[0], p[1]))
	}
}

func TestP8_9Edges(t *testing.T) {
	for k := 1; k <= 8; k++ {
		got, e := auto.Concat(whole(k), whole(k))
		gives(t, "Concat of all words and all words", got, e, whole(k))
		for _, p := range [][2]api.Auto{{whole(k), nothing(k)}, {nothing(k), whole(k)}, {nothing(k), nothing(k)}} {
			got, e = auto.Concat(p[0], p[1])
			gives(t, "Concat with no word", got, e, nothing(k))
		}
	}
	// The word b, and behind it what A does not accept.
	b, _ := auto.Word(2, "b")
	got, e := auto.Concat(b, bStar())
	gives(t, "Concat of b and b*", got, e, plainConcat(b, bStar()))
	for w, should := range map[string]bool{"": false, "b": true, "bb": true, "a": false, "ba": false, "ab": false} {
		if takes(got, w) != should {
			t.Errorf("Concat of b and b*: %q is wrong", w)
		}
	}
}

// TestP8_10Examples: the beginning accepts; b leads to a set that accepts, a to one that doesn't.
func TestP8_10Examples(t *testing.T) {
	b, _ := auto.Word(2, "b")
	got, e := auto.Star(b)
	// The states: the beginning; {1}, where a leads; {0, 2}, where b leads; {1, 1} is {1} again, and behind {0, 2} b leads to {0, 1, 2}.
	gives(t, "Star(Word(2, b))", got, e, made(2, []int{1, 2, 1, 1, 1, 3, 1, 3}, true, false, true, true))
}

func TestP8_10Star(t *testing.T) {
	for _, a := range append(samples(), everyAuto(2, 3)...) {
		got, e := auto.Star(a)
		gives(t, "Star of "+brief(a), got, e, plainStar(a))
	}
}

// TestP8_10Edges: the beginning is a state of its own, also where 0 is accepted and where nothing is.
func TestP8_10Edges(t *testing.T) {
	for k := 1; k <= 8; k++ {
		ones := make([]int, 2*k)
		for i := range ones {
			ones[i] = 1
		}
		got, e := auto.Star(whole(k))
		gives(t, "Star of all words", got, e, made(k, ones, true, true))
		got, e = auto.Star(nothing(k))
		gives(t, "Star of no word", got, e, made(k, ones, true, false))
	}
}
