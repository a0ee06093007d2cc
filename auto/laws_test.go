package auto_test

import (
	"testing"

	"eggbox/api"
	"eggbox/auto"
)

// speaks holds an automaton to a language, word by word.
func speaks(t *testing.T, call string, got api.Auto, e api.Errno, says func(w string) bool) {
	t.Helper()
	if e != api.OK {
		t.Fatalf("%s: error %d", call, e)
	}
	for _, w := range someWords(got.Letters) {
		is, e := auto.Accepts(got, w)
		if is != says(w) || is != takes(got, w) || e != api.OK {
			t.Fatalf("%s: %q is %v, %d", call, w, is, e)
		}
	}
}

func TestP8_12LanguagesOfOne(t *testing.T) {
	for _, a := range append(samples(), everyAuto(2, 3)...) {
		got, e := auto.Reach(a)
		speaks(t, "Reach of "+brief(a), got, e, func(w string) bool { return takes(a, w) })
		got, e = auto.Not(a)
		speaks(t, "Not of "+brief(a), got, e, func(w string) bool { return !takes(a, w) })
		got, e = auto.Reverse(a)
		speaks(t, "Reverse of "+brief(a), got, e, func(w string) bool { return takes(a, turned(w)) })
		got, e = auto.Star(a)
		speaks(t, "Star of "+brief(a), got, e, func(w string) bool { return takesStar(a, w) })
	}
}

func TestP8_12LanguagesOfTwo(t *testing.T) {
	for _, p := range samplePairs() {
		a, b := p[0], p[1]
		name := " of " + brief(a) + " and " + brief(b)
		got, e := auto.Both(a, b)
		speaks(t, "Both"+name, got, e, func(w string) bool { return takes(a, w) && takes(b, w) })
		got, e = auto.Either(a, b)
		speaks(t, "Either"+name, got, e, func(w string) bool { return takes(a, w) || takes(b, w) })
		got, e = auto.But(a, b)
		speaks(t, "But"+name, got, e, func(w string) bool { return takes(a, w) && !takes(b, w) })
		got, e = auto.Concat(a, b)
		speaks(t, "Concat"+name, got, e, func(w string) bool { return takesConcat(a, b, w) })
	}
}

// TestP8_12MadeOfMade: words are put together, turned round and taken away again.
func TestP8_12MadeOfMade(t *testing.T) {
	d := dice(31)
	for range 300 {
		k := 1 + d.below(8)
		u, v := d.word(k, d.below(5)), d.word(k, d.below(5))
		a, _ := auto.Word(k, u)
		b, _ := auto.Word(k, v)
		joined, e := auto.Concat(a, b)
		speaks(t, "Concat of "+u+" and "+v, joined, e, func(w string) bool { return w == u+v })
		if !takes(joined, u+v) {
			t.Errorf("Concat of %q and %q does not have their word", u, v)
		}
		back, e := auto.Reverse(joined)
		speaks(t, "Reverse of "+u+v, back, e, func(w string) bool { return w == turned(u+v) })
		again, e := auto.Star(joined)
		speaks(t, "Star of "+u+v, again, e, func(w string) bool { return takesStar(joined, w) })
		for _, w := range []string{"", u + v, u + v + u + v, u + v + u + v + u + v} {
			if !takes(again, w) {
				t.Errorf("Star of %q does not have %q", u+v, w)
			}
		}
		left, e := auto.Ahead(joined, u)
		speaks(t, "Ahead of "+u, left, e, func(w string) bool { return w == v })
		left, e = auto.Behind(joined, v)
		speaks(t, "Behind of "+v, left, e, func(w string) bool { return w == u })
	}
}

// TestP8_11Languages: Ahead accepts v just if a accepts w v, Behind just if a accepts v w.
func TestP8_11Languages(t *testing.T) {
	for _, a := range samples() {
		for _, w := range words(a.Letters, 2) {
			got, e := auto.Ahead(a, w)
			speaks(t, "Ahead of "+brief(a)+" by "+w, got, e, func(v string) bool { return takes(a, w+v) })
			got, e = auto.Behind(a, w)
			speaks(t, "Behind of "+brief(a)+" by "+w, got, e, func(v string) bool { return takes(a, v+w) })
		}
	}
}

func TestP8_13Quotients(t *testing.T) {
	d := dice(41)
	for _, a := range samples() {
		for range 12 {
			u, v := d.word(a.Letters, d.below(5)), d.word(a.Letters, d.below(5))
			first, _ := auto.Ahead(a, u)
			got, e := auto.Ahead(first, v)
			should, _ := auto.Ahead(a, u+v)
			gives(t, "Ahead of "+brief(a)+" by "+u+", then "+v, got, e, should)
			last, _ := auto.Behind(a, v)
			got, e = auto.Behind(last, u)
			should, _ = auto.Behind(a, u+v)
			gives(t, "Behind of "+brief(a)+" by "+v+", then "+u, got, e, should)
		}
	}
}

// ordered holds what was made to P8.14, and, where the words are not too many, to what in order means.
func ordered(t *testing.T, call string, got api.Auto, e api.Errno) {
	t.Helper()
	if e != api.OK || auto.Check(got) != api.OK {
		t.Fatalf("%s is %s, %d", call, brief(got), e)
	}
	again, e := auto.Reach(got)
	gives(t, "Reach of "+call, again, e, got)
	if n := len(got.Accept); (got.Letters == 1 && n < 40 || got.Letters == 2 && n < 11 || n < 5) && !isInOrder(got) {
		t.Errorf("%s is %s, which is not in order", call, brief(got))
	}
}

func TestP8_14OfOne(t *testing.T) {
	for _, a := range append(samples(), everyAuto(2, 3)...) {
		for _, c := range ones() {
			got, e := c.call(a)
			ordered(t, c.name+" of "+brief(a), got, e)
		}
	}
	for k := 1; k <= 8; k++ {
		for _, w := range someWords(k) {
			got, e := auto.Word(k, w)
			ordered(t, "Word of "+w, got, e)
		}
	}
}

func TestP8_14OfTwo(t *testing.T) {
	for _, p := range samplePairs() {
		for _, c := range twos() {
			got, e := c.call(p[0], p[1])
			ordered(t, c.name+" of "+brief(p[0])+" and "+brief(p[1]), got, e)
		}
	}
}

func TestP8_15NotOfNot(t *testing.T) {
	for _, a := range append(samples(), everyAuto(2, 3)...) {
		not, _ := auto.Not(a)
		got, e := auto.Not(not)
		should, _ := auto.Reach(a)
		gives(t, "Not of Not of "+brief(a), got, e, should)
	}
}

func TestP8_15NotOfBoth(t *testing.T) {
	for _, p := range samplePairs() {
		both, _ := auto.Both(p[0], p[1])
		should, _ := auto.Not(both)
		first, _ := auto.Not(p[0])
		second, _ := auto.Not(p[1])
		got, e := auto.Either(first, second)
		gives(t, "Either of Not of "+brief(p[0])+" and Not of "+brief(p[1]), got, e, should)
	}
	// Both sides are refused at the same products.
	for ring, should := range map[int]api.Errno{63: api.OK, 64: api.ErrStates} {
		a, b := lasso(0, ring, 1), lasso(0, 65, 2)
		_, e := auto.Both(a, b)
		first, _ := auto.Not(a)
		second, _ := auto.Not(b)
		_, e2 := auto.Either(first, second)
		if e != should || e2 != should {
			t.Errorf("rings of %d and 65: %d and %d", ring, e, e2)
		}
	}
}
