package groups_test

import (
	"math"
	"slices"
	"strconv"
	"strings"
	"testing"

	"eggbox/api"
	"eggbox/groups"
	"eggbox/idem"
	"eggbox/monoid"
)

// sample is an automaton, and how many elements its monoid has (0, if that isn't told).
type sample struct {
	name  string
	a     api.Auto
	elems int
}

// wholeGroups are automata whose monoids are groups.
func wholeGroups() []sample {
	cyclic := func(n int) api.Auto { return beside(1, part{0, 0, n}) }
	quaternions := plane(3, move{0, 2, 1, 0, 0, 0}, move{1, 1, 1, 2, 0, 0})
	shift := move{1, 0, 0, 1, 1, 0}
	out := []sample{
		{"of one element", still(3, 2), 1},
		{"(aa)*", even(), 2},
		{"a ring of 64", cyclic(64), 64},
		{"rings of 16 and 32", counters(16, 32), 512},
		{"rings of 3 and 5", counters(3, 5), 15},
		{"rings of 4 and 6", counters(4, 6), 24},
		{"504 powers", powers(0), 504},
		{"8 letters, a group of 512", counters(2, 2, 2, 2, 2, 2, 2, 4), 512},
		{"quaternions", quaternions, 8},
		{"quaternions, rings of 4 and 16", times(quaternions, counters(4, 16)), 512},
		{"three squares", times(times(mirrored(4), mirrored(4)), mirrored(4)), 512},
		{"halves of 4", halved(2), 8},
		{"four squares, knit", knit(), 256},
		{"halves of 8", halved(3), 128},
		{"halves of 8 and a ring of 4", times(halved(3), cyclic(4)), 512},
		{"even permutations of 4", threes(4), 12},
		{"even permutations of 5", threes(5), 60},
		{"even permutations of 6", threes(6), 360},
		{"even permutations of 5 and a ring of 8", times(threes(5), cyclic(8)), 480},
		{"permutations of 5 and a ring of 4", times(turns(5), cyclic(4)), 480},
		{"permutations of 4 and even ones of 4", times(turns(4), threes(4)), 288},
		{"special moves of 3", plane(3, special()...), 24},
		{"special moves of 5", plane(5, special()...), 120},
		{"special moves of 7", plane(7, special()...), 336},
		{"special moves of 3 and a shift", plane(3, append(special(), shift)...), 216},
		{"all moves of 3", plane(3, append(special(), move{2, 0, 0, 1, 0, 0})...), 48},
		{"all moves of 3 and a shift", plane(3, append(special(), move{2, 0, 0, 1, 0, 0}, shift)...), 432},
		{"shears of 3", plane(3, shift, special()[1]), 27},
		{"shears of 5", plane(5, shift, special()[1]), 125},
		{"shears of 7", plane(7, shift, special()[1]), 343},
		{"the line of 7", line(7), 168},
		{"the line of 7, stretched", line(7, 3), 336},
		{"the line of 8", lineOf8(), 504},
		{"23 points, stretched", stretched(23, 5), 506},
		{"17 points, stretched by 2", stretched(17, 2), 136},
	}
	for n := 1; n <= 5; n++ {
		out = append(out, sample{"permutations of " + strconv.Itoa(n), turns(n), []int{1, 1, 2, 6, 24, 120}[n]})
	}
	for n := 3; n <= 12; n++ {
		out = append(out, sample{strconv.Itoa(n) + " points, mirrored", mirrored(n), 2 * n})
	}
	return append(out, sample{"64 points, mirrored", mirrored(64), 128})
}

// withGroups are automata whose monoids have groups, and more.
func withGroups() []sample {
	steps := []part{{0, 1, 1}, {1, 1, 1}, {2, 1, 1}}
	out := []sample{
		{"512 powers", powers(8), 512},
		{"511 powers", powers(7), 511},
		{"510 powers behind the identity", late(beside(1, part{0, 0, 2}, part{0, 0, 3}, part{0, 0, 5}, part{0, 0, 17})), 511},
		{"32 points, mirrored, and steps", times(mirrored(32), beside(3, steps...)), 512},
		{"rings that have nothing in common", lonely(3, 4, 5, 7, 11, 13, 17), 62},
		{"rings of 2, 4, 6 and 9", lonely(2, 4, 6, 9), 23},
		{"a way of 5 into a ring of 3", beside(1, part{0, 5, 3}), 8},
		{"unlike ways and rings", beside(2, part{0, 9, 2}, part{1, 1, 3}), 44},
		{"a way, a ring and what stays", beside(3, part{0, 4, 3}, part{1, 2, 5}, part{2, 0, 1}), 49},
		{"all maps of 2", allMaps(2), 4},
		{"all maps of 3", allMaps(3), 27},
		{"all maps of 4", allMaps(4), 256},
		{"parts of 3", partial(3), 34},
		{"parts of 4", partial(4), 209},
		{"crossing of 3", crossing(3), 25},
		{"crossing of 4", crossing(4), 169},
		{"all moves of 3, singular ones too", plane(3, append(special(), move{2, 0, 0, 1, 0, 0}, move{1, 0, 0, 0, 0, 0})...), 81},
		{"moves of 3, a shift and a way to a line", plane(3, move{1, 1, 0, 1, 0, 0}, move{1, 0, 0, 1, 1, 0}, move{1, 0, 0, 0, 0, 0}), 0},
		{"a group over a way", joined(turns(3), beside(2, part{0, 3, 1})), 0},
		{"states that are not met", joined(pairs(), beside(2, part{1, 1, 3})), 0},
	}
	for _, s := range wholeGroups() {
		if n := len(s.a.Accept); s.elems > 1 && s.elems < 512 && n < 64 {
			out = append(out, sample{s.name + ", behind the identity", late(s.a), s.elems + 1})
		}
		if n := len(s.a.Accept); s.elems > 1 && s.elems < 128 && n < 32 && s.a.Letters < 7 {
			out = append(out, sample{s.name + ", twice", twice(s.a), 4*s.elems + 2})
		}
	}
	return out
}

// withoutGroups are automata in whose monoids each group has one member.
func withoutGroups() []sample {
	steps := []part{{0, 1, 1}, {1, 1, 1}, {2, 1, 1}, {3, 1, 1}, {4, 1, 1}, {5, 1, 1}, {6, 1, 1}, {7, 1, 1}}
	out := []sample{
		{"the chapter's", pairs(), 6},
		{"8 letters, 512 with a zero", beside(8, append(steps[:7:7], part{7, 3, 1})...), 512},
		{"8 letters, a semilattice", beside(8, steps...), 256},
		{"abc again and again", around(3), 11},
		{"8 letters again and again", around(8), 66},
		{"both ends of 3", bothEnds(3), 10},
		{"both ends of 8", bothEnds(8), 65},
		{"a way of 64", beside(1, part{0, 63, 1}), 64},
		{"one word", ending(2, 20), 0},
		{"one word of 8 letters", ending(8, 13), 0},
		{"nothing is met", joined(still(2, 1), pairs()), 6},
	}
	for k := 1; k <= 8; k++ {
		name := " of " + strconv.Itoa(k) + " letters"
		out = append(out, sample{"one state" + name, still(k, 1), 1}, sample{"the last letter" + name, lastLetter(k, 10), k + 1}, sample{"the first letter" + name, firstLetter(k), k + 1})
	}
	return out
}

// samples are automata of all kinds.
func samples() []sample {
	return slices.Concat(wholeGroups(), withGroups(), withoutGroups(), thrown(40))
}

// thrown are that many automata that look thrown, whose monoids may be built. In every other one two letters make permutations.
func thrown(n int) []sample {
	var out []sample
	for d := dice(17); len(out) < n; {
		a := d.auto(1+d.below(4), 1+d.below(6))
		if len(out)%2 == 0 {
			a = d.mixed(1+d.below(2), d.below(2), 2+d.below(5))
		}
		if m, e := monoid.Build(a); e == api.OK {
			out = append(out, sample{"thrown: " + brief(a), a, m.Len()})
		}
	}
	return out
}

// everyAuto is each automaton of k letters and n states.
func everyAuto(k, n int) []sample {
	rows := [][]int{nil}
	for range k * n {
		var more [][]int
		for _, r := range rows {
			for to := range n {
				more = append(more, append(slices.Clone(r), to))
			}
		}
		rows = more
	}
	var out []sample
	for _, r := range rows {
		a := api.Auto{Letters: k, Next: r, Accept: make([]bool, n)}
		out = append(out, sample{brief(a), a, 0})
	}
	return out
}

// smallOnes are all automata of few states and letters.
func smallOnes() []sample {
	return slices.Concat(everyAuto(1, 1), everyAuto(2, 1), everyAuto(8, 1), everyAuto(1, 2), everyAuto(2, 2), everyAuto(3, 2), everyAuto(1, 3), everyAuto(1, 4), everyAuto(2, 3))
}

// dice answers numbers that look thrown and are the same at each run.
type dice uint64

func (d *dice) roll() uint64 {
	x := uint64(*d)
	x ^= x << 13
	x ^= x >> 7
	x ^= x << 17
	*d = dice(x)
	return x
}

func (d *dice) below(n int) int { return int(d.roll() >> 11 % uint64(n)) }

func (d *dice) auto(k, n int) api.Auto {
	return of(k, n, func(s, l int) int { return d.below(n) })
}

// mixed has letters that are permutations, and then letters that are any maps.
func (d *dice) mixed(permutations, others, n int) api.Auto {
	rows := make([][]int, permutations+others)
	for l := range rows {
		rows[l] = numbers(n)
		for s := range n {
			if l >= permutations {
				rows[l][s] = d.below(n)
			} else if to := s + d.below(n-s); to > s {
				rows[l][s], rows[l][to] = rows[l][to], rows[l][s]
			}
		}
	}
	return of(len(rows), n, func(s, l int) int { return rows[l][s] })
}

// outside are numbers that are no places of n.
func outside(n int) []int {
	var out []int
	for _, i := range []int{-1, -2, -n, n, n + 1, 2*n + 1, 512, 513, 1 << 16, 1<<16 + n, 1 << 32, -1 << 32, math.MinInt, math.MinInt + 1, math.MaxInt} {
		if i < 0 || i >= n {
			out = append(out, i)
		}
	}
	return out
}

// built is Build where it must be answered.
func built(t *testing.T, a api.Auto) *monoid.Monoid {
	t.Helper()
	out, e := monoid.Build(a)
	if out == nil || e != api.OK {
		t.Fatalf("Build of %s: %v, %d", brief(a), out != nil, e)
	}
	return out
}

// at is Of where it must be answered.
func at(t *testing.T, m *monoid.Monoid, e int) *groups.Group {
	t.Helper()
	out, wrong := groups.Of(m, e)
	if out == nil || wrong != api.OK {
		t.Fatalf("of %d elements: Of(%d): %v, %d", m.Len(), e, out != nil, wrong)
	}
	return out
}

// visit goes through samples with their monoids, until one of them fails.
func visit(t *testing.T, all []sample, look func(name string, m *monoid.Monoid)) {
	t.Helper()
	for _, s := range all {
		m := built(t, s.a)
		if s.elems > 0 && m.Len() != s.elems {
			t.Fatalf("%s: %d elements", s.name, m.Len())
		}
		look(s.name, m)
		if t.Failed() {
			return
		}
	}
}

// visitGroups goes through the groups at all idempotents of samples.
func visitGroups(t *testing.T, all []sample, look func(name string, m *monoid.Monoid, e int, g *groups.Group)) {
	t.Helper()
	visit(t, all, func(name string, m *monoid.Monoid) {
		for _, e := range must[[]int](t)(idem.List(m)) {
			look(name, m, e, at(t, m, e))
		}
	})
}

// lawful are monoids of all kinds and sizes.
func lawful() []sample { return slices.Concat(samples(), thrown(150)[40:], smallOnes()) }

// must is an answer that no error may stand beside.
func must[T any](t *testing.T) func(T, api.Errno) T {
	return func(out T, e api.Errno) T {
		t.Helper()
		if e != api.OK {
			t.Fatalf("error %d, should be OK", e)
		}
		return out
	}
}

// numbers are 0 to n - 1.
func numbers(n int) []int {
	var out []int
	for i := range n {
		out = append(out, i)
	}
	return out
}

// brief is an automaton as a message may show it.
func brief(a api.Auto) string {
	var out strings.Builder
	out.WriteString(strconv.Itoa(a.Letters) + " letters, " + strconv.Itoa(len(a.Accept)) + " states (")
	for i, s := range a.Next {
		if i == 40 {
			out.WriteString(" ..")
			break
		}
		out.WriteString(" " + strconv.Itoa(s))
	}
	return out.String() + " )"
}
