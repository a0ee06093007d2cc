package monoid_test

import (
	"slices"
	"strconv"
	"strings"
	"testing"
	"unsafe"

	"eggbox/api"
	"eggbox/monoid"
)

// portrait is what a monoid answers, as a text: all of each element, and many products.
func portrait(m *monoid.Monoid) string {
	var out strings.Builder
	say := func(numbers ...int) {
		for _, n := range numbers {
			out.WriteString(strconv.Itoa(n) + " ")
		}
	}
	z, is := m.Zero()
	say(m.Len(), m.Letters(), z)
	out.WriteString(strconv.FormatBool(is) + brief(m.Auto()))
	for _, s := range m.Auto().Next {
		say(s)
	}
	for i := range m.Len() {
		letter := byte('a' + i%m.Letters())
		word, e0 := m.Word(i)
		got := everyAnswer(m, word+word, i, m.Len()-1-i, letter, 5)
		out.WriteString("\n" + word + strconv.FormatBool(got.is))
		say(int(e0), got.trans.N)
		say(got.numbers[:]...)
		for _, w := range got.trans.Words {
			out.WriteString(strconv.FormatUint(w, 16) + " ")
		}
	}
	left, right := m.Rules()
	out.WriteString("\n" + strings.Join(left, " ") + ": " + strings.Join(right, " "))
	return out.String()
}

// roomy is the automaton in lists with room behind them, which is filled, so that a write there is seen.
func roomy(a api.Auto) api.Auto {
	next := append(slices.Clone(a.Next), 77, 78, 79, 80)
	accept := append(slices.Clone(a.Accept), true, false, true)
	return api.Auto{Letters: a.Letters, Next: next[:len(a.Next)], Accept: accept[:len(a.Accept)]}
}

// untouched: are the lists, and the room behind them, as roomy made them?
func untouched(a, kept api.Auto) bool {
	return same(a, kept) && slices.Equal(a.Next[len(a.Next):len(a.Next)+4], []int{77, 78, 79, 80}) && slices.Equal(a.Accept[len(a.Accept):len(a.Accept)+3], []bool{true, false, true})
}

// spoil writes over an automaton's lists and the room behind them.
func spoil(a api.Auto) {
	next, accept := a.Next[:cap(a.Next)], a.Accept[:cap(a.Accept)]
	for i := range next {
		next[i] = -9
	}
	for i := range accept {
		accept[i] = !accept[i]
	}
}

func TestP1WhatIsHandedInIsNotChanged(t *testing.T) {
	for _, s := range slices.Concat(samples(), tooMany()) {
		a := roomy(s.a)
		m, _ := monoid.Build(a)
		portrait(m)
		if !untouched(a, s.a) {
			t.Errorf("%s: what was handed in was changed", s.name)
		}
	}
	for _, kept := range notAutos() {
		a := roomy(kept)
		monoid.Build(a)
		if !untouched(a, kept) {
			t.Errorf("%s: what was handed in was changed", brief(kept))
		}
	}
	m := built(t, pairs())
	for _, w := range []string{"", "abba", "abc"} {
		room := []byte(w + "zz")
		m.Element(unsafe.String(&room[0], len(w)))
		if string(room) != w+"zz" {
			t.Errorf("Element changed its word to %q", room)
		}
	}
}

// TestP1LaterChangesChangeNoAnswer: neither of the automaton that was handed in nor of what Auto answered.
func TestP1LaterChangesChangeNoAnswer(t *testing.T) {
	for _, s := range samples() {
		a := roomy(s.a)
		m := built(t, a)
		before := portrait(m)
		spoil(a)
		if portrait(m) != before || !same(m.Auto(), s.a) {
			t.Errorf("%s: the automaton was changed, and the monoid has other answers", s.name)
		}
		spoil(m.Auto())
		if portrait(m) != before || !same(m.Auto(), s.a) {
			t.Errorf("%s: Auto's answer was changed, and the monoid has other answers", s.name)
		}
	}
	// Two monoids of one automaton.
	a := pairs()
	one, two := built(t, a), built(t, a)
	spoil(one.Auto())
	if !same(two.Auto(), pairs()) {
		t.Errorf("two monoids of one automaton share it")
	}
}

// TestP1ListsAreNew: two answers share nothing, also where there is room behind them.
func TestP1ListsAreNew(t *testing.T) {
	for _, s := range samples() {
		m := built(t, s.a)
		before := portrait(m)
		left, right := m.Rules()
		keptLeft, keptRight := slices.Clone(left), slices.Clone(right)
		otherLeft, otherRight := m.Rules()
		overwrite(otherLeft)
		overwrite(otherRight)
		if !slices.Equal(left, keptLeft) || !slices.Equal(right, keptRight) {
			t.Errorf("%s: two answers of Rules share memory", s.name)
		}
		overwrite(left)
		if !slices.Equal(right, keptRight) {
			t.Errorf("%s: the two lists of Rules share memory", s.name)
		}
		if portrait(m) != before {
			t.Errorf("%s: Rules' answer was changed, and the monoid has other answers", s.name)
		}
		first, second := m.Auto(), m.Auto()
		spoil(first)
		if !same(second, s.a) {
			t.Errorf("%s: two answers of Auto share memory", s.name)
		}
	}
}

// overwrite writes over a list and the room behind it.
func overwrite(l []string) {
	l = l[:cap(l)]
	for i := range l {
		l[i] = "spoilt"
	}
}

// TestP1WordsAreNew: no byte of a word that is answered lies where one of another answer lies.
func TestP1WordsAreNew(t *testing.T) {
	for _, s := range samples() {
		m := built(t, s.a)
		met := map[*byte]string{}
		look := func(what, w string) {
			for i := range len(w) {
				at := (*byte)(unsafe.Add(unsafe.Pointer(unsafe.StringData(w)), i))
				if old, there := met[at]; there {
					t.Fatalf("%s: %s shares memory with %s", s.name, what, old)
				}
				met[at] = what
			}
		}
		// All answers are kept till the end, so that none of their memory is used again.
		var kept []string
		for range 2 {
			for i := range min(m.Len(), 40) {
				kept = append(kept, must[string](t)(m.Word(i)))
				look("Word", kept[len(kept)-1])
			}
			left, right := m.Rules()
			for i := range min(len(left), 60) {
				kept = append(kept, left[i], right[i])
				look("a left side", left[i])
				look("a right side", right[i])
			}
		}
		if len(kept) < 2 {
			t.Errorf("%s: %d words", s.name, len(kept))
		}
	}
}

// TestP1TheSameAnswerAgain: whatever was built and asked in between.
func TestP1TheSameAnswerAgain(t *testing.T) {
	all := samples()
	var first []string
	var monoids []*monoid.Monoid
	for _, s := range all {
		m := built(t, s.a)
		monoids = append(monoids, m)
		first = append(first, portrait(m))
	}
	for i, s := range slices.Backward(all) {
		if portrait(monoids[i]) != first[i] {
			t.Errorf("%s has other answers after other calls", s.name)
		}
		if portrait(built(t, s.a)) != first[i] {
			t.Errorf("%s, built again, has other answers", s.name)
		}
	}
}
