package monoid_test

import (
	"math"
	"slices"
	"strconv"
	"strings"
	"testing"

	"eggbox/api"
	"eggbox/monoid"
)

// pairs is the chapter's A: the automaton of (ab)*.
func pairs() api.Auto {
	return api.Auto{Letters: 2, Next: []int{1, 2, 2, 0, 2, 2}, Accept: []bool{true, false, false}}
}

// of is the automaton of k letters and n states where the letter l leads from s to to(s, l); every third state is accepted.
func of(k, n int, to func(s, l int) int) api.Auto {
	out := api.Auto{Letters: k}
	for s := range n {
		for l := range k {
			out.Next = append(out.Next, to(s, l))
		}
		out.Accept = append(out.Accept, s%3 == 0)
	}
	return out
}

// still is where each letter stays.
func still(k, n int) api.Auto { return of(k, n, func(s, l int) int { return s }) }

// part is a tail of so many states that leads into a ring of so many: one letter (or each, if it is below 0) goes along, the others stay.
type part struct{ letter, tail, ring int }

// beside has the parts one beside the other: only the states of the first one are met from 0.
func beside(k int, parts ...part) api.Auto {
	var out api.Auto
	for _, p := range parts {
		n := p.tail + p.ring
		out = joined(out, of(k, n, func(s, l int) int {
			switch {
			case p.letter >= 0 && p.letter != l:
				return s
			case s == n-1:
				return p.tail
			}
			return s + 1
		}))
	}
	return out
}

// joined is a with the states of b behind its own.
func joined(a, b api.Auto) api.Auto {
	out := api.Auto{Letters: b.Letters, Next: slices.Clone(a.Next), Accept: slices.Concat(a.Accept, b.Accept)}
	for _, s := range b.Next {
		out.Next = append(out.Next, s+len(a.Accept))
	}
	return out
}

// filled is a with states that stay behind its own, n in all.
func filled(a api.Auto, n int) api.Auto { return joined(a, still(a.Letters, n-len(a.Accept))) }

// counters has a ring of one of these sizes for each letter: a group with the sizes' product of elements.
func counters(sizes ...int) api.Auto {
	var all []part
	for l, n := range sizes {
		all = append(all, part{l, 0, n})
	}
	return beside(len(sizes), all...)
}

// powers has one letter and elements a^0 to a^(n-1), n being tail + 504.
func powers(tail int) api.Auto {
	return beside(1, part{0, tail, 7}, part{0, 0, 8}, part{0, 0, 9})
}

// allMaps makes all n^n maps of n points: a turns all, b exchanges two, c makes them one.
func allMaps(n int) api.Auto {
	return of(3, n, func(s, l int) int {
		switch {
		case l == 0:
			return (s + 1) % n
		case l == 1 && s < 2 && n > 1:
			return 1 - s
		case l == 2:
			return max(s, min(1, n-1))
		}
		return s
	})
}

// turns makes all n! permutations of n points.
func turns(n int) api.Auto {
	a := allMaps(n)
	return of(2, n, func(s, l int) int { return a.Next[s*3+l] })
}

// lastLetter leads each state to that of the letter: the last letter alone tells. Each letter is a zero on one side.
func lastLetter(k, n int) api.Auto { return of(k, n, func(s, l int) int { return l % n }) }

// firstLetter leads from 0 to the letter's state, where all stay: the first letter alone tells.
func firstLetter(k int) api.Auto {
	return of(k, k+1, func(s, l int) int {
		if s == 0 {
			return l + 1
		}
		return s
	})
}

// ending is an automaton of n states whose monoid has words of all letters: a letter goes on, others begin anew or sink.
func ending(k, n int) api.Auto {
	return of(k, n, func(s, l int) int {
		switch {
		case s == n-1:
			return s
		case s%k == l:
			return s + 1
		}
		return n - 1
	})
}

// sample is an automaton, and how many elements its monoid has (0, if that isn't told).
type sample struct {
	name  string
	a     api.Auto
	elems int
}

// samples are automata of all kinds whose monoids may be built.
func samples() []sample {
	out := []sample{
		{"the chapter's", pairs(), 6},
		{"512 powers", powers(8), 512},
		{"512 powers, 64 states", filled(powers(8), 64), 512},
		{"511 powers", powers(7), 511},
		{"8 letters, a group of 512", counters(2, 2, 2, 2, 2, 2, 2, 4), 512},
		{"8 letters, a group of 512, 64 states", filled(counters(2, 2, 2, 2, 2, 2, 2, 4), 64), 512},
		{"8 letters, 512 with a zero", beside(8, part{0, 1, 1}, part{1, 1, 1}, part{2, 1, 1}, part{3, 1, 1}, part{4, 1, 1}, part{5, 1, 1}, part{6, 1, 1}, part{7, 3, 1}), 512},
		{"8 letters, a semilattice", beside(8, part{0, 1, 1}, part{1, 1, 1}, part{2, 1, 1}, part{3, 1, 1}, part{4, 1, 1}, part{5, 1, 1}, part{6, 1, 1}, part{7, 1, 1}), 256},
		{"all maps of 2", allMaps(2), 4},
		{"all maps of 3", allMaps(3), 27},
		{"all maps of 4", allMaps(4), 256},
		{"permutations of 3", turns(3), 6},
		{"permutations of 5", turns(5), 120},
		{"a ring of 64", beside(1, part{0, 0, 64}), 64},
		{"a way of 64", beside(1, part{0, 63, 1}), 64},
		{"8 letters go a way of 64", beside(8, part{-1, 63, 1}), 64},
		{"a way, a ring and what stays", beside(3, part{0, 4, 3}, part{1, 2, 5}, part{2, 0, 1}), 49},
		{"one word", ending(2, 20), 0},
		{"one word of 8 letters", ending(8, 13), 0},
		{"states that are not met", joined(pairs(), beside(2, part{1, 1, 3})), 0},
		{"nothing is met", joined(still(2, 1), pairs()), 6},
	}
	for k := 1; k <= 8; k++ {
		name := " of " + strconv.Itoa(k) + " letters"
		out = append(out, sample{"one state" + name, still(k, 1), 1}, sample{"64 states that stay" + name, still(k, 64), 1},
			sample{"the last letter" + name, lastLetter(k, 64), k + 1}, sample{"the first letter" + name, firstLetter(k), k + 1})
	}
	d := dice(14)
	for i := range 40 {
		a := d.auto(1+d.below(8), 1+d.below(4))
		if _, small := byBeginnings(a); small {
			out = append(out, sample{"thrown " + strconv.Itoa(i), a, 0})
		}
	}
	return out
}

// tooMany are automata whose monoids have more than MaxElems elements.
func tooMany() []sample {
	d := dice(41)
	out := []sample{
		{"513 powers", powers(9), 513},
		{"513 powers, 64 states", filled(powers(9), 64), 513},
		{"a group of 513", counters(3, 3, 3, 19), 513},
		{"8 letters, a group of 768", counters(2, 2, 2, 2, 2, 2, 2, 6), 768},
		{"all maps of 5", allMaps(5), 3125},
		{"permutations of 6", turns(6), 720},
		{"all maps of 64", allMaps(64), 0},
		{"2 letters, thrown", d.auto(2, 64), 0},
		{"8 letters, thrown", d.auto(8, 64), 0},
		{"1 letter, rings up to 60060", beside(1, part{0, 0, 4}, part{0, 0, 3}, part{0, 0, 5}, part{0, 0, 7}, part{0, 0, 11}, part{0, 0, 13}), 60060},
	}
	return out
}

// everyAuto is each automaton of k letters and n states, each with one set of accepted states, which changes from one to the next.
func everyAuto(k, n int) []api.Auto {
	rows := [][]int{nil}
	for range k * n {
		var more [][]int
		for _, r := range rows {
			for to := range n {
				more = append(more, append(slices.Clone(r), to))
			}
		}
		rows = more
	}
	var out []api.Auto
	for i, r := range rows {
		a := api.Auto{Letters: k, Next: r, Accept: make([]bool, n)}
		for s := range n {
			a.Accept[s] = (i+i/7)>>s%2 == 0
		}
		out = append(out, a)
	}
	return out
}

// smallOnes are all automata of few states and letters.
func smallOnes() []api.Auto {
	return slices.Concat(everyAuto(1, 1), everyAuto(2, 1), everyAuto(8, 1), everyAuto(1, 2), everyAuto(2, 2), everyAuto(3, 2), everyAuto(1, 3), everyAuto(1, 4), everyAuto(2, 3))
}

// dice answers numbers that look thrown and are the same at each run.
type dice uint64

func (d *dice) roll() uint64 {
	x := uint64(*d)
	x ^= x << 13
	x ^= x >> 7
	x ^= x << 17
	*d = dice(x)
	return x
}

func (d *dice) below(n int) int { return int(d.roll() >> 11 % uint64(n)) }

func (d *dice) auto(k, n int) api.Auto {
	out := of(k, n, func(s, l int) int { return d.below(n) })
	for s := range out.Accept {
		out.Accept[s] = d.below(2) == 0
	}
	return out
}

func (d *dice) word(k, letters int) string {
	out := make([]byte, letters)
	for i := range out {
		out[i] = 'a' + byte(d.below(k))
	}
	return string(out)
}

// words are some of many lengths, the empty one first.
func (d *dice) words(k int) []string {
	out := []string{""}
	for _, n := range []int{1, 1, 2, 2, 3, 4, 5, 7, 10, 20, 50} {
		out = append(out, d.word(k, n))
	}
	return out
}

// noElements are numbers that are no elements of a monoid of n.
func noElements(n int) []int {
	return []int{-1, -2, -n, n, n + 1, 2*n + 1, 512, 513, 1 << 16, 1<<16 + n, 1 << 32, math.MinInt, math.MinInt + 1, math.MaxInt}
}

// noLetters are bytes that are none of the first k letters.
func noLetters(k int) []byte {
	var out []byte
	for b := range 256 {
		if b < 'a' || b >= 'a'+k {
			out = append(out, byte(b))
		}
	}
	return out
}

// built is Build where it must be answered.
func built(t *testing.T, a api.Auto) *monoid.Monoid {
	t.Helper()
	out, e := monoid.Build(a)
	if out == nil || e != api.OK {
		t.Fatalf("Build of %s: %v, %d", brief(a), out != nil, e)
	}
	return out
}

// must is an answer that no error may stand beside.
func must[T any](t *testing.T) func(T, api.Errno) T {
	return func(out T, e api.Errno) T {
		t.Helper()
		if e != api.OK {
			t.Fatalf("error %d, should be OK", e)
		}
		return out
	}
}

func same(a, b api.Auto) bool {
	return a.Letters == b.Letters && slices.Equal(a.Next, b.Next) && slices.Equal(a.Accept, b.Accept)
}

// brief is an automaton as a message may show it.
func brief(a api.Auto) string {
	if len(a.Next) > 40 || len(a.Accept) > 40 {
		return strconv.Itoa(a.Letters) + " letters, " + strconv.Itoa(len(a.Accept)) + " states"
	}
	var out strings.Builder
	out.WriteString(strconv.Itoa(a.Letters) + " (")
	for _, s := range a.Next {
		out.WriteString(" " + strconv.Itoa(s))
	}
	out.WriteString(" ) ")
	for _, is := range a.Accept {
		out.WriteString(strconv.FormatBool(is)[:1])
	}
	return out.String()
}
