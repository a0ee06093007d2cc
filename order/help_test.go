package order_test

import (
	"math"
	"slices"
	"strconv"
	"strings"
	"testing"

	"eggbox/api"
	"eggbox/monoid"
)

// sample is an automaton, and how many elements its monoid has (0, if that isn't told).
type sample struct {
	name  string
	a     api.Auto
	elems int
}

// minimalOnes are minimal automata.
func minimalOnes() []sample {
	out := []sample{
		{"the chapter's", pairs(), 6},
		{"(aa)*", atFirst(part{0, 0, 2}.auto(1)), 2},
		{"a ring of 64", atFirst(part{0, 0, 64}.auto(1)), 64},
		{"a way of 64", atLast(part{0, 63, 1}.auto(1)), 64},
		{"a way of 30 into a ring of 34", atLast(part{0, 30, 34}.auto(1)), 64},
		{"permutations of 4", atFirst(turns(4)), 24},
		{"permutations of 5", atFirst(turns(5)), 120},
		{"three squares, one by the other", atFirst(together(together(mirrored(4), mirrored(4)), mirrored(4))), 512},
		{"all maps of 3", atFirst(allMaps(3)), 27},
		{"all maps of 4", atLast(allMaps(4)), 256},
		{"parts of 3", atFirst(partial(3)), 34},
		{"parts of 4", atLast(partial(4)), 209},
		{"abc again and again", around(3), 11},
		{"8 letters again and again", around(8), 66},
		{"one word", ending(2, 20), 0},
		{"one word of 8 letters", ending(8, 13), 0},
		{"bending 4 and rising 3", together(bending(4), atLast(rising(3))), 175},
	}
	for n := 2; n <= 7; n++ {
		out = append(out, sample{"rising " + strconv.Itoa(n), rising(n), []int{0, 1, 2, 5, 14, 42, 132, 429}[n]})
	}
	for n := 2; n <= 5; n++ {
		out = append(out, sample{"bending " + strconv.Itoa(n), bending(n), []int{0, 1, 3, 10, 35, 126}[n]})
	}
	for k := 1; k <= 6; k++ {
		out = append(out, sample{"seen " + strconv.Itoa(k), seen(k), 1 << k})
	}
	for _, s := range slices.Clone(out) {
		out = append(out, sample{s.name + ", not", not(s.a), s.elems})
	}
	return out
}

// wideOnes are automata of which most are not minimal.
func wideOnes() []sample {
	third := func(s int) bool { return s%3 == 1 }
	out := []sample{
		{"512 powers", powers(8), 512},
		{"511 powers", powers(7), 511},
		{"512 powers, first met in a ring of 9", beside(1, part{0, 0, 9}, part{0, 0, 8}, part{0, 8, 7}), 512},
		{"a group of 512 whose rings are not met", beside(8, part{0, 0, 2}, part{1, 0, 2}, part{2, 0, 2}, part{3, 0, 2}, part{4, 0, 2}, part{5, 0, 2}, part{6, 0, 2}, part{7, 0, 4}), 512},
		{"8 letters, 512, one met", beside(8, part{7, 3, 1}, part{1, 1, 1}, part{2, 1, 1}, part{3, 1, 1}, part{4, 1, 1}, part{5, 1, 1}, part{6, 1, 1}, part{0, 1, 1}), 512},
		{"three squares, each third accepted", accepting(together(together(mirrored(4), mirrored(4)), mirrored(4)), third), 512},
		{"three squares, two halves", accepting(together(together(mirrored(4), mirrored(4)), mirrored(4)), func(s int) bool { return s < 32 }), 512},
		{"pairs in which one is asked", accepting(together(allMaps(3), rising(4)), func(s int) bool { return s%4 > 1 }), 378},
		{"pairs in which the other one is asked", accepting(together(allMaps(3), rising(4)), func(s int) bool { return s < 4 }), 378},
		{"rising 7, a way down accepted", accepting(rising(7), func(s int) bool { return s < 3 || s == 5 }), 429},
		{"bending 5, the middle accepted", accepting(bending(5), func(s int) bool { return s == 2 }), 126},
		{"seen 6, few or many", accepting(seen(6), func(s int) bool { return s&7 == 7 || s>>3 == 7 || s == 0 }), 64},
		{"seen 6, by number", accepting(seen(6), third), 64},
		{"all maps of 4, two accepted", accepting(allMaps(4), func(s int) bool { return s < 2 }), 256},
		{"all maps of 4, two times", doubled(atFirst(allMaps(4))), 488},
		{"rising 6, two times", doubled(rising(6)), 263},
		{"seen 5, two times", doubled(seen(5)), 63},
		{"permutations of 5, later", late(atFirst(turns(5))), 121},
		{"(ab)*, later", late(pairs()), 0},
		{"states that are not met", joined(pairs(), part{1, 1, 3}.auto(2)), 0},
		{"a great one that is not met", joined(pairs(), atLast(mirrored(5))), 0},
		{"(ab)* is not met", joined(still(2, 1), pairs()), 6},
		{"both ends of 3", bothEnds(3), 10},
		{"both ends of 7", accepting(bothEnds(7), func(s int) bool { return s%2 == 1 }), 50},
		{"nothing accepted", accepting(allMaps(4), func(s int) bool { return false }), 256},
		{"all accepted", accepting(rising(6), func(s int) bool { return true }), 132},
		{"64 states that stay", still(8, 64), 1},
	}
	for k := 1; k <= 8; k++ {
		name := " of " + strconv.Itoa(k) + " letters"
		out = append(out, sample{"one state" + name, still(k, 1), 1}, sample{"one state" + name + ", not accepted", not(still(k, 1)), 1})
		out = append(out, sample{"the last letter" + name, lastLetter(k, 10), k + 1}, sample{"the first letter" + name, firstLetter(k), k + 1})
	}
	return out
}

// samples are automata of all kinds.
func samples() []sample { return slices.Concat(minimalOnes(), wideOnes(), thrown(60)) }

// few are those of samples whose monoids have at most so many elements.
func few(t *testing.T, all []sample, most int) []sample {
	t.Helper()
	return slices.DeleteFunc(all, func(s sample) bool { return built(t, s.a).Len() > most })
}

// thrown are that many automata that look thrown, whose monoids may be built.
func thrown(n int) []sample {
	var out []sample
	for d := dice(18); len(out) < n; {
		a := d.auto(1+d.below(4), 1+d.below(6))
		switch len(out) % 3 {
		case 1:
			a = d.sorted(1+d.below(5), 2+d.below(6))
		case 2:
			a = d.auto(1+d.below(2), 3+d.below(9))
		}
		if m, e := monoid.Build(a); e == api.OK {
			out = append(out, sample{"thrown: " + brief(a), a, m.Len()})
		}
	}
	return out
}

// everyAuto is each automaton of k letters and n states, with what is accepted in each way (if all is said), or in two.
func everyAuto(k, n int, all bool) []sample {
	rows := [][]int{nil}
	for range k * n {
		var more [][]int
		for _, r := range rows {
			for to := range n {
				more = append(more, append(slices.Clone(r), to))
			}
		}
		rows = more
	}
	var out []sample
	for at, r := range rows {
		for set := range 1 << n {
			if !all && set != at%(1<<n) && set != (at*5+3)%(1<<n) {
				continue
			}
			a := api.Auto{Letters: k, Next: r}
			for s := range n {
				a.Accept = append(a.Accept, set>>s&1 == 1)
			}
			out = append(out, sample{brief(a), a, 0})
		}
	}
	return out
}

// smallOnes are all automata of few states and letters.
func smallOnes() []sample {
	return slices.Concat(everyAuto(1, 1, true), everyAuto(2, 1, true), everyAuto(8, 1, true), everyAuto(1, 2, true), everyAuto(2, 2, true), everyAuto(3, 2, true), everyAuto(1, 3, true), everyAuto(1, 4, true), everyAuto(2, 3, false))
}

// dice answers numbers that look thrown and are the same at each run.
type dice uint64

func (d *dice) roll() uint64 {
	x := uint64(*d)
	x ^= x << 13
	x ^= x >> 7
	x ^= x << 17
	*d = dice(x)
	return x
}

func (d *dice) below(n int) int { return int(d.roll() >> 11 % uint64(n)) }

func (d *dice) auto(k, n int) api.Auto {
	a := of(k, n, func(s, l int) int { return d.below(n) })
	return accepting(a, func(s int) bool { return d.below(2) == 0 })
}

// sorted has letters that keep the order of the states, and accepts the upper ones.
func (d *dice) sorted(k, n int) api.Auto {
	rows := make([][]int, k)
	for l := range rows {
		for range n {
			rows[l] = append(rows[l], d.below(n))
		}
		slices.Sort(rows[l])
	}
	from := 1 + d.below(n)
	return accepting(of(k, n, func(s, l int) int { return rows[l][s] }), func(s int) bool { return s >= from })
}

// outside are numbers that are no places of n.
func outside(n int) []int {
	var out []int
	for _, i := range []int{-1, -2, -n, n, n + 1, 2*n + 1, 512, 513, 1 << 16, 1<<16 + n, 1 << 32, -1 << 32, math.MinInt, math.MinInt + 1, math.MaxInt} {
		if i < 0 || i >= n {
			out = append(out, i)
		}
	}
	return out
}

// built is Build where it must be answered.
func built(t *testing.T, a api.Auto) *monoid.Monoid {
	t.Helper()
	out, e := monoid.Build(a)
	if out == nil || e != api.OK {
		t.Fatalf("Build of %s: %v, %d", brief(a), out != nil, e)
	}
	return out
}

// visit goes through samples with their monoids, until one of them fails.
func visit(t *testing.T, all []sample, look func(name string, m *monoid.Monoid)) {
	t.Helper()
	for _, s := range all {
		m := built(t, s.a)
		if s.elems > 0 && m.Len() != s.elems {
			t.Fatalf("%s: %d elements", s.name, m.Len())
		}
		look(s.name, m)
		if t.Failed() {
			return
		}
	}
}

// lawful are monoids of all kinds and sizes.
func lawful() []sample { return slices.Concat(samples(), thrown(200)[60:], smallOnes()) }

// must is an answer that no error may stand beside.
func must[T any](t *testing.T) func(T, api.Errno) T {
	return func(out T, e api.Errno) T {
		t.Helper()
		if e != api.OK {
			t.Fatalf("error %d, should be OK", e)
		}
		return out
	}
}

// numbers are 0 to n - 1.
func numbers(n int) []int {
	var out []int
	for i := range n {
		out = append(out, i)
	}
	return out
}

// brief is an automaton as a message may show it.
func brief(a api.Auto) string {
	var out strings.Builder
	out.WriteString(strconv.Itoa(a.Letters) + " letters, " + strconv.Itoa(len(a.Accept)) + " states (")
	for i, s := range a.Next {
		if i == 40 {
			out.WriteString(" ..")
			break
		}
		out.WriteString(" " + strconv.Itoa(s))
	}
	out.WriteString(" ), accepted (")
	for s, is := range a.Accept {
		if is && s < 40 {
			out.WriteString(" " + strconv.Itoa(s))
		}
	}
	return out.String() + " )"
}
