package equal_test

import (
	"strings"
	"testing"

	"eggbox/api"
	"eggbox/auto"
	"eggbox/equal"
)

func TestP12_1Examples(t *testing.T) {
	isEqual.says(t, bStar(), whole(2), false)
	isInside.says(t, bStar(), whole(2), true)
	if is, e := equal.Equal(bStar(), whole(1)); is || e != api.ErrLetters {
		t.Errorf("Equal(A, {1, [0], [true]}) is %v, %d", is, e)
	}
	if is, e := equal.Equal(bStar(), api.Auto{}); is || e != api.ErrAuto {
		t.Errorf("Equal(A, {}) is %v, %d", is, e)
	}
}

func TestP12_2Examples(t *testing.T) {
	differ.finds(t, bStar(), whole(2), "a", true)
	escape.finds(t, bStar(), whole(2), "", false)
	escape.finds(t, whole(2), bStar(), "a", true)
	meet.finds(t, bStar(), whole(2), "", true)
	not, _ := auto.Not(bStar())
	meet.finds(t, bStar(), not, "", false)
}

// TestP12_2OneState: the empty language and that of all words, of all letters.
func TestP12_2OneState(t *testing.T) {
	for k := 1; k <= 8; k++ {
		for _, c := range []struct {
			a, b                 api.Auto
			differs, leaves, met bool
		}{
			{whole(k), whole(k), false, false, true},
			{nothing(k), nothing(k), false, false, false},
			{whole(k), nothing(k), true, true, false},
			{nothing(k), whole(k), true, false, false},
		} {
			isEqual.says(t, c.a, c.b, !c.differs)
			isInside.says(t, c.a, c.b, !c.leaves)
			differ.finds(t, c.a, c.b, "", c.differs)
			escape.finds(t, c.a, c.b, "", c.leaves)
			meet.finds(t, c.a, c.b, "", c.met)
		}
	}
}

// TestP12_2NothingAndWhole: against them a language's own least word is found, or that of its complement.
func TestP12_2NothingAndWhole(t *testing.T) {
	for _, p := range samples() {
		a := p[0]
		k := a.Letters
		w, found, _ := auto.Least(a)
		out, left, _ := auto.Least(turned(a))
		escape.finds(t, a, nothing(k), w, found)
		meet.finds(t, a, whole(k), w, found)
		meet.finds(t, whole(k), a, w, found)
		differ.finds(t, a, nothing(k), w, found)
		differ.finds(t, nothing(k), a, w, found)
		escape.finds(t, whole(k), a, out, left)
		differ.finds(t, a, whole(k), out, left)
		escape.finds(t, nothing(k), a, "", false)
		escape.finds(t, a, whole(k), "", false)
		meet.finds(t, a, nothing(k), "", false)
		meet.finds(t, nothing(k), a, "", false)
		isInside.says(t, nothing(k), a, true)
		isInside.says(t, a, whole(k), true)
		isInside.says(t, a, nothing(k), !found)
		isEqual.says(t, a, nothing(k), !found)
		isEqual.says(t, a, whole(k), !left)
	}
}

// TestP12_2AndItself: also where states and names are others.
func TestP12_2AndItself(t *testing.T) {
	d := dice(99)
	for _, p := range samples() {
		a := p[0]
		n := len(a.Accept)
		least, found, _ := auto.Least(a)
		for _, b := range []api.Auto{a, clone(a), renamed(a, d.names(n)), d.blown(a, n+5), beside(a, p[1])} {
			isEqual.says(t, a, b, true)
			isInside.says(t, a, b, true)
			differ.finds(t, a, b, "", false)
			escape.finds(t, a, b, "", false)
			meet.finds(t, a, b, least, found)
			meet.finds(t, a, turned(b), "", false)
			escape.finds(t, a, turned(b), least, found)
			differ.finds(t, a, turned(b), "", true)
		}
	}
}

// TestP12_2NotMet: states to which no word leads say nothing, whatever their language.
func TestP12_2NotMet(t *testing.T) {
	for _, p := range samples() {
		a, b := p[0], p[1]
		far, near := beside(a, turned(b)), beside(b, turned(a))
		// The last state leads to the first ones, and is not met.
		far.Next[len(far.Next)-1] = 0
		for _, s := range searches() {
			w, found, e := s.call(a, b)
			if e != api.OK {
				t.Fatalf("%s of %s and %s: %d", s.name, brief(a), brief(b), e)
			}
			s.finds(t, far, b, w, found)
			s.finds(t, a, near, w, found)
			s.finds(t, far, near, w, found)
		}
		for _, v := range verdicts() {
			is, _ := v.call(a, b)
			v.says(t, far, near, is)
		}
	}
}

// TestP12_2EmptyWord: it may be the least one, which is not the same as none.
func TestP12_2EmptyWord(t *testing.T) {
	// Of all words but the empty one.
	some := made(2, []int{1, 1, 1, 1}, false, true)
	differ.finds(t, some, whole(2), "", true)
	differ.finds(t, whole(2), some, "", true)
	escape.finds(t, whole(2), some, "", true)
	escape.finds(t, some, whole(2), "", false)
	meet.finds(t, whole(2), turned(some), "", true)
	meet.finds(t, some, turned(some), "", false)
	meet.finds(t, some, whole(2), "a", true)
	isEqual.says(t, some, whole(2), false)
	isInside.says(t, whole(2), some, false)
	isInside.says(t, some, whole(2), true)
}

// list is the automaton of these words, over k letters.
func list(k int, all ...string) api.Auto {
	out := nothing(k)
	for _, w := range all {
		one, _ := auto.Word(k, w)
		out, _ = auto.Either(out, one)
	}
	return out
}

// TestP12_2LeastOfSeveral: shorter ones come first, whatever their letters; of one length that with the lesser letter where they are first unlike, whatever stands behind it.
func TestP12_2LeastOfSeveral(t *testing.T) {
	for _, c := range []struct {
		a, b                  []string
		differs, leaves, meet string
	}{
		{[]string{"aaa", "b"}, nil, "b", "b", ""},
		{[]string{"ba", "ab", "bb"}, nil, "ab", "ab", ""},
		{[]string{"abbb", "baaa"}, nil, "abbb", "abbb", ""},
		{[]string{"hhh", "hgh", "ghh"}, nil, "ghh", "ghh", ""},
		{[]string{"bh", "ca"}, []string{"ah", "bh"}, "ah", "ca", "bh"},
		{[]string{"aab", "aba", "bab", "bba"}, []string{"bba", "bab", "bbb", "ba"}, "ba", "aab", "bab"},
		{[]string{"h", "ab", "ca"}, []string{"h", "ca", "ba"}, "ab", "ab", "h"},
		{[]string{"ccc", "ccd", "cdc"}, []string{"ccd", "ccc", "ddd"}, "cdc", "cdc", "ccc"},
	} {
		a, b := list(8, c.a...), list(8, c.b...)
		differ.finds(t, a, b, c.differs, true)
		differ.finds(t, b, a, c.differs, true)
		escape.finds(t, a, b, c.leaves, true)
		meet.finds(t, a, b, c.meet, c.meet != "")
		meet.finds(t, b, a, c.meet, c.meet != "")
	}
	// One letter alone tells them apart.
	for k := 1; k <= 8; k++ {
		for l := range k {
			a := lasso(k, 2, 1, 1)
			for i := range k {
				a.Next[i] = 2
			}
			a.Next[l] = 1
			letter := string(rune('a' + l))
			differ.finds(t, a, nothing(k), letter, true)
			escape.finds(t, a, nothing(k), letter, true)
			meet.finds(t, whole(k), a, letter, true)
		}
	}
}

// TestP12_2AllOfOneLength: of all words of one length, one left out after the other.
func TestP12_2AllOfOneLength(t *testing.T) {
	for _, k := range []int{2, 3} {
		var kept []string
		for _, w := range words(k, 3) {
			if len(w) == 3 {
				kept = append(kept, w)
			}
		}
		all := list(k, kept...)
		left := nothing(k)
		for _, w := range kept {
			escape.finds(t, all, left, w, true)
			differ.finds(t, left, all, w, true)
			meet.finds(t, all, turned(left), w, true)
			one, _ := auto.Word(k, w)
			left, _ = auto.Either(left, one)
		}
		isEqual.says(t, left, all, true)
	}
}

// TestP12_2LongWord: a word of all letters, against what is unlike at one place.
func TestP12_2LongWord(t *testing.T) {
	d := dice(12)
	for _, letters := range []int{1, 2, 63, 64, 65, 200, 4094} {
		w := d.word(8, letters)
		a, _ := auto.Word(8, w)
		other := w[:letters-1] + string('a'+(w[letters-1]-'a'+1)%8)
		b, _ := auto.Word(8, other)
		least := w
		if isLess(other, w) {
			least = other
		}
		differ.finds(t, a, b, least, true)
		escape.finds(t, a, b, w, true)
		escape.finds(t, b, a, other, true)
		meet.finds(t, a, b, "", false)
		meet.finds(t, a, a, w, true)
		isInside.says(t, a, b, false)
		isEqual.says(t, a, b, false)
		isInside.says(t, a, lasso(8, 0, 1, 0), true)
		meet.finds(t, a, lasso(8, letters, 1, letters), w, true)
		differ.finds(t, a, nothing(8), w, true)
	}
	differ.finds(t, list(1, strings.Repeat("a", 50)), nothing(1), strings.Repeat("a", 50), true)
}
