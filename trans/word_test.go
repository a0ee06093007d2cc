package trans_test

import (
	"math"
	"slices"
	"strings"
	"testing"

	"eggbox/api"
	"eggbox/trans"
)

// leads is where each state is led by a word, letter by letter.
func leads(a api.Auto, w string) []int {
	out := stay(len(a.Accept))
	for s := range out {
		for i := range len(w) {
			out[s] = a.Next[out[s]*a.Letters+int(w[i]-'a')]
		}
	}
	return out
}

// someWords are words over k letters: none, each letter, short ones and long ones.
func (d *dice) someWords(k int) []string {
	out := []string{""}
	for l := range k {
		letter := string(rune('a' + l))
		out = append(out, letter, strings.Repeat(letter, 63), strings.Repeat(letter, 64))
	}
	for _, n := range []int{2, 3, 4, 5, 10, 64, 500} {
		out = append(out, d.word(k, n), d.word(k, n))
	}
	return out
}

func TestP1305ByDefinition(t *testing.T) {
	d := dice(1305)
	for k := 1; k <= 8; k++ {
		for n := 1; n <= 64; n++ {
			a := d.auto(k, n)
			for _, w := range d.someWords(k) {
				got, e := trans.OfWord(a, w)
				gives(t, "OfWord of "+w, got, e, leads(a, w))
			}
		}
	}
}

// ringAuto: the first letter turns a ring of n states, the second one leads all of them to the last one; others stay.
func ringAuto(k, n int) api.Auto {
	out := api.Auto{Letters: k, Accept: make([]bool, n)}
	for s := range n {
		row := alike(k, s)
		row[0] = (s + 1) % n
		if k > 1 {
			row[1] = n - 1
		}
		out.Next = append(out.Next, row...)
	}
	return out
}

func TestP1305TheChaptersReading(t *testing.T) {
	a := api.Auto{Letters: 2, Next: []int{1, 2, 2, 0, 2, 2}, Accept: []bool{true, false, false}}
	for w, should := range map[string][]int{"": {0, 1, 2}, "a": {1, 2, 2}, "b": {2, 0, 2}, "ab": {0, 2, 2}, "ba": {2, 1, 2}, "aa": {2, 2, 2}, "aba": {1, 2, 2}} {
		got, e := trans.OfWord(a, w)
		gives(t, "OfWord of "+w, got, e, should)
	}
}

func TestP1305TheEmptyWord(t *testing.T) {
	for k := 1; k <= 8; k++ {
		for n := 1; n <= 64; n++ {
			got, e := trans.OfWord(ringAuto(k, n), "")
			gives(t, "OfWord of the empty word", got, e, stay(n))
		}
	}
}

func TestP1305LongWords(t *testing.T) {
	d := dice(77)
	a := ringAuto(2, 64)
	for _, n := range []int{4096, 4097, 100000} {
		got, e := trans.OfWord(a, strings.Repeat("a", n))
		gives(t, "OfWord of a long word", got, e, leads(a, strings.Repeat("a", n%64)))
		w := d.word(2, n)
		got, e = trans.OfWord(a, w)
		gives(t, "OfWord of a long word", got, e, leads(a, w))
	}
}

// badAutos are no automata; some of them have more than MaxStates states.
func badAutos() []api.Auto {
	out := []api.Auto{
		{}, {Letters: 2}, {Letters: 1, Next: []int{0}}, {Accept: []bool{true}}, {Letters: 2, Next: []int{}, Accept: []bool{}},
		{Letters: 9, Next: make([]int, 9), Accept: make([]bool, 1)}, {Letters: -1, Accept: make([]bool, 1)},
		{Letters: math.MaxInt, Next: []int{0}, Accept: []bool{true}}, {Letters: math.MinInt, Accept: []bool{true, false}},
		{Letters: 1<<62 + 1, Next: make([]int, 4), Accept: make([]bool, 4)},
		ringAuto(1, 4097), ringAuto(8, 4097), ringAuto(1, 70000),
	}
	for _, n := range []int{1, 2, 64, 65, 4096} {
		for _, to := range []int{-1, n, math.MaxInt, math.MinInt, n + 256} {
			for _, at := range []int{0, n, 2*n - 1} {
				a := ringAuto(2, n)
				a.Next[at] = to
				out = append(out, a)
			}
		}
		a := ringAuto(2, n)
		out = append(out, api.Auto{Letters: 2, Next: a.Next[1:], Accept: a.Accept}, api.Auto{Letters: 2, Next: append(slices.Clone(a.Next), 0), Accept: a.Accept}, api.Auto{Letters: 1, Next: a.Next, Accept: a.Accept})
	}
	return out
}

// TestP1305NoAutomaton: ahead of too many states and of what is no word.
func TestP1305NoAutomaton(t *testing.T) {
	for _, a := range badAutos() {
		for _, w := range []string{"", "a", "abba", "c", "z", "\x00", "ab ", "a\xff"} {
			got, e := trans.OfWord(a, w)
			refuses(t, "OfWord of what is no automaton", got, e, api.ErrAuto)
		}
	}
}

// TestP1305TooManyStates: ahead of what is no word; MaxStates are not too many.
func TestP1305TooManyStates(t *testing.T) {
	for k := 1; k <= 8; k++ {
		got, e := trans.OfWord(ringAuto(k, 64), "a")
		gives(t, "OfWord of 64 states", got, e, lasso(0, 64))
		for _, n := range []int{65, 66, 128, 256, 320, 4095, 4096} {
			for _, w := range []string{"", "a", "aaaa", "z", "\x00", "aA", "a\xff"} {
				got, e := trans.OfWord(ringAuto(k, n), w)
				refuses(t, "OfWord of too many states", got, e, api.ErrStates)
			}
		}
	}
}

// TestP1305NoLetter: each byte that is none of the automaton's letters, wherever it stands.
func TestP1305NoLetter(t *testing.T) {
	d := dice(5)
	for k := 1; k <= 8; k++ {
		for _, n := range []int{1, 2, 64} {
			a := d.auto(k, n)
			for b := range 256 {
				if b >= 'a' && b < 'a'+k {
					continue
				}
				one := string([]byte{byte(b)})
				for _, w := range []string{one, one + "a", "a" + one, "aaa" + one + "aaa", one + one} {
					got, e := trans.OfWord(a, w)
					refuses(t, "OfWord of a word with another byte", got, e, api.ErrLetter)
				}
			}
			for _, w := range []string{"ä", "aä", "ａ", strings.Repeat("a", 5000) + "i", "i" + strings.Repeat("a", 5000)} {
				got, e := trans.OfWord(a, w)
				refuses(t, "OfWord of a word with another sign", got, e, api.ErrLetter)
			}
		}
	}
}
