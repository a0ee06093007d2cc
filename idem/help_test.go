package idem_test

import (
	"math"
	"slices"
	"strconv"
	"strings"
	"testing"

	"eggbox/api"
	"eggbox/monoid"
)

// pairs is the automaton of (ab)*, of which the chapter's example is.
func pairs() api.Auto {
	return api.Auto{Letters: 2, Next: []int{1, 2, 2, 0, 2, 2}, Accept: []bool{true, false, false}}
}

// of is the automaton of k letters and n states where the letter l leads from s to to(s, l).
func of(k, n int, to func(s, l int) int) api.Auto {
	out := api.Auto{Letters: k}
	for s := range n {
		for l := range k {
			out.Next = append(out.Next, to(s, l))
		}
		out.Accept = append(out.Accept, s%3 == 0)
	}
	return out
}

// still is where each letter stays.
func still(k, n int) api.Auto { return of(k, n, func(s, l int) int { return s }) }

// part is a tail of so many states that leads into a ring of so many: one letter (or each, if it is below 0) goes along, the others stay.
type part struct{ letter, tail, ring int }

// beside has the parts one beside the other.
func beside(k int, parts ...part) api.Auto {
	var out api.Auto
	for _, p := range parts {
		n := p.tail + p.ring
		out = joined(out, of(k, n, func(s, l int) int {
			switch {
			case p.letter >= 0 && p.letter != l:
				return s
			case s == n-1:
				return p.tail
			}
			return s + 1
		}))
	}
	return out
}

// joined is a with the states of b behind its own.
func joined(a, b api.Auto) api.Auto {
	out := api.Auto{Letters: b.Letters, Next: slices.Clone(a.Next), Accept: slices.Concat(a.Accept, b.Accept)}
	for _, s := range b.Next {
		out.Next = append(out.Next, s+len(a.Accept))
	}
	return out
}

// counters has a ring of one of these sizes for each letter: a group with the sizes' product of elements.
func counters(sizes ...int) api.Auto {
	var all []part
	for l, n := range sizes {
		all = append(all, part{l, 0, n})
	}
	return beside(len(sizes), all...)
}

// powers has one letter and elements a^0 to a^(n-1), n being tail + 504.
func powers(tail int) api.Auto {
	return beside(1, part{0, tail, 7}, part{0, 0, 8}, part{0, 0, 9})
}

// lonely has a ring of one of these sizes for each letter; what the letter finds in no ring of its own sinks. Products of two letters are the zero.
func lonely(sizes ...int) api.Auto {
	sink := 0
	for _, n := range sizes {
		sink += n
	}
	first := make([]int, len(sizes))
	for l := 1; l < len(sizes); l++ {
		first[l] = first[l-1] + sizes[l-1]
	}
	return of(len(sizes), sink+1, func(s, l int) int {
		if at := s - first[l]; at >= 0 && at < sizes[l] {
			return first[l] + (at+1)%sizes[l]
		}
		return sink
	})
}

// allMaps makes all n^n maps of n points: a turns all, b exchanges two, c makes them one.
func allMaps(n int) api.Auto {
	return of(3, n, func(s, l int) int {
		switch {
		case l == 0:
			return (s + 1) % n
		case l == 1 && s < 2 && n > 1:
			return 1 - s
		case l == 2:
			return max(s, min(1, n-1))
		}
		return s
	})
}

// turns makes all n! permutations of n points.
func turns(n int) api.Auto {
	a := allMaps(n)
	return of(2, n, func(s, l int) int { return a.Next[s*3+l] })
}

// crossing has two halves of n points, in which a and b make all permutations; c makes two points of the first half one and leads to the second half, from there all points to a last one. Of the elements with one c no two have a product among them.
func crossing(n int) api.Auto {
	a := allMaps(n)
	return of(3, 2*n+1, func(s, l int) int {
		switch {
		case s == 2*n || l == 2 && s >= n:
			return 2 * n
		case l == 2:
			return n + a.Next[s*3+2]
		case s >= n:
			return n + a.Next[(s-n)*3+l]
		}
		return a.Next[s*3+l]
	})
}

// around is the automaton of (abc..)*, with as many letters as are said: each letter leads from one state on, and to the last one else.
func around(k int) api.Auto {
	return of(k, k+1, func(s, l int) int {
		if s == l {
			return (s + 1) % k
		}
		return k
	})
}

// lastLetter leads each state to that of the letter: each letter is a zero on one side.
func lastLetter(k, n int) api.Auto { return of(k, n, func(s, l int) int { return l % n }) }

// firstLetter leads from 0 to the letter's state, where all stay.
func firstLetter(k int) api.Auto {
	return of(k, k+1, func(s, l int) int {
		if s == 0 {
			return l + 1
		}
		return s
	})
}

// bothEnds tells the first letter and the last one: the elements of letters are a square of rows and columns.
func bothEnds(k int) api.Auto { return joined(firstLetter(k), lastLetter(k, k)) }

// ending is of one word: a letter goes on, the others sink.
func ending(k, n int) api.Auto {
	return of(k, n, func(s, l int) int {
		switch {
		case s == n-1:
			return s
		case s%k == l:
			return s + 1
		}
		return n - 1
	})
}

// sample is an automaton, and how many elements its monoid has (0, if that isn't told).
type sample struct {
	name  string
	a     api.Auto
	elems int
}

// samples are automata of all kinds.
func samples() []sample {
	steps := []part{{0, 1, 1}, {1, 1, 1}, {2, 1, 1}, {3, 1, 1}, {4, 1, 1}, {5, 1, 1}, {6, 1, 1}, {7, 1, 1}}
	out := []sample{
		{"the chapter's", pairs(), 6},
		{"512 powers", powers(8), 512},
		{"511 powers", powers(7), 511},
		{"8 letters, a group of 512", counters(2, 2, 2, 2, 2, 2, 2, 4), 512},
		{"8 letters, 512 with a zero", beside(8, append(steps[:7:7], part{7, 3, 1})...), 512},
		{"rings that have nothing in common", lonely(3, 4, 5, 7, 11, 13, 17), 62},
		{"rings of 2, 4, 6 and 9", lonely(2, 4, 6, 9), 23},
		{"a way of 5 into a ring of 3", beside(1, part{0, 5, 3}), 8},
		{"a way of 6 into a ring of 3", beside(1, part{0, 6, 3}), 9},
		{"a way of 7 into a ring of 3", beside(1, part{0, 7, 3}), 10},
		{"unlike ways and rings", beside(2, part{0, 9, 2}, part{1, 1, 3}), 44},
		{"8 letters, a semilattice", beside(8, steps...), 256},
		{"all maps of 2", allMaps(2), 4},
		{"all maps of 3", allMaps(3), 27},
		{"all maps of 4", allMaps(4), 256},
		{"permutations of 3", turns(3), 6},
		{"permutations of 5", turns(5), 120},
		{"crossing of 2", crossing(2), 5},
		{"crossing of 3", crossing(3), 25},
		{"crossing of 4", crossing(4), 169},
		{"abc again and again", around(3), 11},
		{"8 letters again and again", around(8), 66},
		{"both ends of 3", bothEnds(3), 10},
		{"both ends of 8", bothEnds(8), 65},
		{"a ring of 64", beside(1, part{0, 0, 64}), 64},
		{"a way of 64", beside(1, part{0, 63, 1}), 64},
		{"a way, a ring and what stays", beside(3, part{0, 4, 3}, part{1, 2, 5}, part{2, 0, 1}), 49},
		{"one word", ending(2, 20), 0},
		{"one word of 8 letters", ending(8, 13), 0},
		{"a group over a way", joined(turns(3), beside(2, part{0, 3, 1})), 0},
		{"states that are not met", joined(pairs(), beside(2, part{1, 1, 3})), 0},
		{"nothing is met", joined(still(2, 1), pairs()), 6},
	}
	for k := 1; k <= 8; k++ {
		name := " of " + strconv.Itoa(k) + " letters"
		out = append(out, sample{"one state" + name, still(k, 1), 1}, sample{"the last letter" + name, lastLetter(k, 10), k + 1}, sample{"the first letter" + name, firstLetter(k), k + 1})
	}
	return append(out, thrown(40)...)
}

// thrown are that many automata that look thrown, whose monoids may be built.
func thrown(n int) []sample {
	var out []sample
	for d := dice(15); len(out) < n; {
		a := d.auto(1+d.below(4), 1+d.below(6))
		if m, e := monoid.Build(a); e == api.OK {
			out = append(out, sample{"thrown: " + brief(a), a, m.Len()})
		}
	}
	return out
}

// everyAuto is each automaton of k letters and n states.
func everyAuto(k, n int) []sample {
	rows := [][]int{nil}
	for range k * n {
		var more [][]int
		for _, r := range rows {
			for to := range n {
				more = append(more, append(slices.Clone(r), to))
			}
		}
		rows = more
	}
	var out []sample
	for _, r := range rows {
		a := api.Auto{Letters: k, Next: r, Accept: make([]bool, n)}
		out = append(out, sample{brief(a), a, 0})
	}
	return out
}

// smallOnes are all automata of few states and letters.
func smallOnes() []sample {
	return slices.Concat(everyAuto(1, 1), everyAuto(2, 1), everyAuto(8, 1), everyAuto(1, 2), everyAuto(2, 2), everyAuto(3, 2), everyAuto(1, 3), everyAuto(1, 4), everyAuto(2, 3))
}

// dice answers numbers that look thrown and are the same at each run.
type dice uint64

func (d *dice) roll() uint64 {
	x := uint64(*d)
	x ^= x << 13
	x ^= x >> 7
	x ^= x << 17
	*d = dice(x)
	return x
}

func (d *dice) below(n int) int { return int(d.roll() >> 11 % uint64(n)) }

func (d *dice) auto(k, n int) api.Auto {
	return of(k, n, func(s, l int) int { return d.below(n) })
}

// outside are numbers that are no places of n.
func outside(n int) []int {
	var out []int
	for _, i := range []int{-1, -2, -n, n, n + 1, 2*n + 1, 512, 513, 1 << 16, 1<<16 + n, 1 << 32, -1 << 32, math.MinInt, math.MinInt + 1, math.MaxInt} {
		if i < 0 || i >= n {
			out = append(out, i)
		}
	}
	return out
}

// built is Build where it must be answered.
func built(t *testing.T, a api.Auto) *monoid.Monoid {
	t.Helper()
	out, e := monoid.Build(a)
	if out == nil || e != api.OK {
		t.Fatalf("Build of %s: %v, %d", brief(a), out != nil, e)
	}
	return out
}

// visit goes through samples with their monoids, until one of them fails.
func visit(t *testing.T, all []sample, look func(name string, m *monoid.Monoid)) {
	t.Helper()
	for _, s := range all {
		m := built(t, s.a)
		if s.elems > 0 && m.Len() != s.elems {
			t.Fatalf("%s: %d elements", s.name, m.Len())
		}
		look(s.name, m)
		if t.Failed() {
			return
		}
	}
}

// lawful are monoids of all kinds and sizes.
func lawful() []sample { return slices.Concat(samples(), thrown(80), smallOnes()) }

// must is an answer that no error may stand beside.
func must[T any](t *testing.T) func(T, api.Errno) T {
	return func(out T, e api.Errno) T {
		t.Helper()
		if e != api.OK {
			t.Fatalf("error %d, should be OK", e)
		}
		return out
	}
}

// numbers are 0 to n - 1.
func numbers(n int) []int {
	var out []int
	for i := range n {
		out = append(out, i)
	}
	return out
}

// brief is an automaton as a message may show it.
func brief(a api.Auto) string {
	var out strings.Builder
	out.WriteString(strconv.Itoa(a.Letters) + " letters, " + strconv.Itoa(len(a.Accept)) + " states (")
	for i, s := range a.Next {
		if i == 40 {
			out.WriteString(" ..")
			break
		}
		out.WriteString(" " + strconv.Itoa(s))
	}
	return out.String() + " )"
}
