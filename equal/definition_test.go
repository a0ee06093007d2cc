package equal_test

import (
	"strconv"
	"testing"

	"eggbox/api"
)

// takes: does the word lead from 0 to an accepted state?
func takes(a api.Auto, w string) bool {
	s := 0
	for i := range len(w) {
		s = a.Next[s*a.Letters+int(w[i]-'a')]
	}
	return a.Accept[s]
}

// taken is, for each of the words, whether the automaton accepts it.
func taken(a api.Auto, words []string) []bool {
	out := make([]bool, len(words))
	for i, w := range words {
		out[i] = takes(a, w)
	}
	return out
}

// first is the first of the words that shows it, and whether there is one.
func first(words []string, a, b []bool, shows func(first, second bool) bool) (string, bool) {
	for i, w := range words {
		if shows(a[i], b[i]) {
			return w, true
		}
	}
	return "", false
}

// group are automata of one number of letters, each of which is held against each, by all words of so many letters: as many as there are pairs of states, so that a longer word leads to a pair a second time.
type group struct {
	autos   []api.Auto
	letters int
}

func groups() []group {
	out := []group{
		{append(append(everyAuto(1, 1), everyAuto(1, 2)...), everyAuto(1, 3)...), 9},
		{append(everyAuto(2, 1), everyAuto(2, 2)...), 4},
		{append(everyAuto(3, 1), everyAuto(3, 2)[:128]...), 4},
		{everyAuto(8, 1), 2},
	}
	d := dice(4711)
	for k := 2; k <= 8; k++ {
		g := group{letters: 4}
		n := 2
		if k == 2 {
			n, g.letters = 3, 9
		}
		for range 60 {
			g.autos = append(g.autos, d.thrown(k, n, 2))
		}
		out = append(out, g)
	}
	d = dice(31)
	one := group{letters: 49}
	for range 60 {
		one.autos = append(one.autos, d.thrown(1, 1+d.below(7), 3))
	}
	return append(out, one)
}

// eachPair tells visit of each two automata of each group, with the words and which of them each accepts.
func eachPair(visit func(a, b api.Auto, words []string, first, second []bool)) {
	for _, g := range groups() {
		all := words(g.autos[0].Letters, g.letters)
		var rows [][]bool
		for _, a := range g.autos {
			rows = append(rows, taken(a, all))
		}
		for i, a := range g.autos {
			for j, b := range g.autos {
				visit(a, b, all, rows[i], rows[j])
			}
		}
	}
}

// TestP12_1ByDefinition: word by word.
func TestP12_1ByDefinition(t *testing.T) {
	met := map[string]int{}
	eachPair(func(a, b api.Auto, words []string, inA, inB []bool) {
		equal, inside := true, true
		for i := range words {
			equal = equal && inA[i] == inB[i]
			inside = inside && (!inA[i] || inB[i])
		}
		isEqual.says(t, a, b, equal)
		isInside.says(t, a, b, inside)
		met[strconv.FormatBool(equal)+" "+strconv.FormatBool(inside)]++
	})
	for _, kind := range []string{"true true", "false true", "false false"} {
		if met[kind] < 1000 {
			t.Errorf("only %d pairs are %s", met[kind], kind)
		}
	}
}

// TestP12_2ByDefinition: word by word.
func TestP12_2ByDefinition(t *testing.T) {
	eachPair(func(a, b api.Auto, words []string, inA, inB []bool) {
		for _, s := range searches() {
			w, found := first(words, inA, inB, s.shows)
			s.finds(t, a, b, w, found)
		}
	})
}

// never is the length of a word that is not there.
const never = -1

// lengths is, for each two states, how many letters the shortest word has that shows it from there on. Such a word of one letter more is a letter that leads to two states with such a word.
func lengths(a, b api.Auto, shows func(first, second bool) bool) [][]int {
	out := make([][]int, len(a.Accept))
	for s := range out {
		out[s] = make([]int, len(b.Accept))
		for u := range out[s] {
			out[s][u] = never
			if shows(a.Accept[s], b.Accept[u]) {
				out[s][u] = 0
			}
		}
	}
	for n := 1; lengthen(a, b, out, n); n++ {
	}
	return out
}

// lengthen enters the pairs of length n; false, if there are none: then there are none of more letters.
func lengthen(a, b api.Auto, lengths [][]int, n int) bool {
	more := false
	for s := range lengths {
		for u := range lengths[s] {
			if _, leads := firstTo(a, b, lengths, s, u, n-1); leads && lengths[s][u] == never {
				lengths[s][u] = n
				more = true
			}
		}
	}
	return more
}

// firstTo is the first letter that leads from two states to a pair of that length, and whether there is one.
func firstTo(a, b api.Auto, lengths [][]int, s, u, n int) (int, bool) {
	for l := range a.Letters {
		if lengths[a.Next[s*a.Letters+l]][b.Next[u*b.Letters+l]] == n {
			return l, true
		}
	}
	return 0, false
}

// byLengths goes from letter to letter by the lengths.
func byLengths(a, b api.Auto, shows func(first, second bool) bool) (string, bool) {
	far := lengths(a, b, shows)
	if far[0][0] == never {
		return "", false
	}
	out, s, u := "", 0, 0
	for n := far[0][0] - 1; n >= 0; n-- {
		l, _ := firstTo(a, b, far, s, u, n)
		out += string(rune('a' + l))
		s, u = a.Next[s*a.Letters+l], b.Next[u*b.Letters+l]
	}
	return out, true
}

// TestP12_2ByLengths: of more states, where the words are too many to be asked one by one.
func TestP12_2ByLengths(t *testing.T) {
	met := map[string]int{}
	for _, p := range samples() {
		for _, s := range searches() {
			w, found := byLengths(p[0], p[1], s.shows)
			s.finds(t, p[0], p[1], w, found)
			if len(w) > 3 {
				met[s.name]++
			}
			if !found {
				met["no "+s.name]++
			}
		}
	}
	for _, s := range searches() {
		if met[s.name] < 50 || met["no "+s.name] < 50 {
			t.Errorf("%s: only %d words of more than 3 letters, only %d times none", s.name, met[s.name], met["no "+s.name])
		}
	}
}

func TestP12_1ByLengths(t *testing.T) {
	for _, p := range samples() {
		_, apart := byLengths(p[0], p[1], differ.shows)
		isEqual.says(t, p[0], p[1], !apart)
		_, out := byLengths(p[0], p[1], escape.shows)
		isInside.says(t, p[0], p[1], !out)
	}
}
