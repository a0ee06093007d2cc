package tests_test

import (
	"fmt"
	"slices"
	"testing"

	"eggbox/api"
	"eggbox/dfa"
	"eggbox/minim"
	"eggbox/monoid"
	"eggbox/syntax"
	"eggbox/tests"
)

// names are the classes' names, as the chapter's table has them.
func names() []string {
	return []string{"trivial", "group", "commutative", "idempotent", "semilattice", "counterfree", "rtrivial", "ltrivial", "jtrivial", "htrivial", "da", "ds", "blocks", "central", "upward", "downward", "acom"}
}

// sample is an automaton, and how many elements its monoid has (0, if that isn't told).
type sample struct {
	name  string
	a     api.Auto
	elems int
}

// smallMinimal have few elements, and automata that are minimal and all of whose states are met.
func smallMinimal() []sample {
	out := []sample{
		{"the chapter's", pairs(), 6},
		{"(aa)*", atFirst(part{0, 0, 2}.auto(1)), 2},
		{"a ring of 5", atFirst(part{0, 0, 5}.auto(1)), 5},
		{"a ring of 6", accepting(part{0, 0, 6}.auto(1), func(s int) bool { return s%3 == 1 || s == 0 }), 6},
		{"a way of 4", atLast(part{0, 3, 1}.auto(1)), 4},
		{"a way into a ring", atLast(part{0, 3, 4}.auto(1)), 7},
		{"aa alone", accepting(part{0, 3, 1}.auto(1), func(s int) bool { return s == 2 }), 4},
		{"as many letters", many(3, 4), 5},
		{"permutations of 3", atFirst(turns(3)), 6},
		{"even permutations of 4", atFirst(threes(4)), 12},
		{"a square that is mirrored", atFirst(mirrored(4)), 8},
		{"rings of 2 and 3", counters(2, 3), 6},
		{"rings of 2 and 2", counters(2, 2), 4},
		{"all maps of 2", atFirst(allMaps(2)), 4},
		{"parts of 2", atFirst(partial(2)), 7},
		{"rising 3", rising(3), 5},
		{"rising 4", rising(4), 14},
		{"bending 3", bending(3), 10},
		{"seen 2", seen(2), 4},
		{"seen 3", seen(3), 8},
		{"the empty word", atFirst(part{-1, 1, 1}.auto(2)), 2},
		{"abc again and again", around(3), 11},
		{"one word", ending(2, 5), 0},
		{"the last letter", atLast(lastLetter(2, 2)), 3},
		{"the first letter", accepting(firstLetter(2), func(s int) bool { return s == 1 }), 3},
		{"one state", still(1, 1), 1},
		{"one state of 8 letters", still(8, 1), 1},
	}
	for _, s := range slices.Clone(out) {
		out = append(out, sample{s.name + ", not", not(s.a), s.elems})
	}
	return out
}

// texts are expressions over a and b, of languages of many kinds.
func texts() []string {
	return []string{".*a.*", ".*ab.*", ".*a.*b.*", ".*a", "a.*", "a.*a|a", ".*aa.*", "(a|ba*b)*", "(ab|ba)*", "(aa|b)*", "a*b*", "a*ba*", "b*|b*ab*", ".", "..", "0", "1", "a", "ab", "(..)*", "(...)*|a", "a(..)*", ".*a.*a.*",
		"!(.*ab.*)", "b*a.*", ".*ab*", "b*a.*-.*ab*", "(a*b)*", "a*b.*|b*a", ".*a.*&.*b.*", ".*a.*&.*b", "a(a|b)*b", "(a.)*", "(.b)*", "(a(ab)*b)*", "a(ba)*", "(aab)*", "(abb)*|(ba)*", ".*(aa|bb).*", "a*|b*", "1|a.*", "(a|bb)*", ".*b.", "(b|ab*a)*a*", "(.*a.*)&(..)*", "b*(ab*ab*)*", "a?b?a?", "(ab)*|.*aa", "bb*", "aa*|bb*", ".b.*", "ab.*", "..a.*", ".*ba", ".*a..", ".b.*|.a", "b?a.*", "(b|ab)a.*"}
}

// spoken are the minimal automata of those expressions.
func spoken(t *testing.T) []sample {
	t.Helper()
	var out []sample
	for _, text := range texts() {
		out = append(out, sample{text, read(t, 2, text), 0})
	}
	return out
}

// read is the minimal automaton of what a text says over k letters.
func read(t *testing.T, k int, text string) api.Auto {
	t.Helper()
	tree, at, e := syntax.Parse(k, text)
	if e != api.OK {
		t.Fatalf("Parse(%q): %d at %d", text, e, at)
	}
	return minimal(t, must[api.Auto](t)(dfa.Compile(k, tree)))
}

// minimal is the minimal automaton of the same language.
func minimal(t *testing.T, a api.Auto) api.Auto {
	t.Helper()
	out, _, e := minim.Minimal(a)
	if e != api.OK {
		t.Fatalf("Minimal of %s: %d", brief(a), e)
	}
	return out
}

// thrownMinimal are minimal automata of thrown ones, with at most so many elements.
func thrownMinimal(t *testing.T, count, most int) []sample {
	t.Helper()
	var out []sample
	for d := dice(count + most); len(out) < count; {
		a := minimal(t, d.auto(1+d.below(3), 2+d.below(4)))
		if m, e := monoid.Build(a); e == api.OK && m.Len() <= most && (m.Len() > 1 || d.below(20) == 0) {
			out = append(out, sample{"thrown: " + brief(a), a, m.Len()})
		}
	}
	return out
}

// minimalOnes are all minimal ones with few elements.
func minimalOnes(t *testing.T) []sample {
	t.Helper()
	return slices.Concat(smallMinimal(), spoken(t), thrownMinimal(t, 150, 60))
}

// others have few elements, and automata that are mostly not minimal.
func others(t *testing.T) []sample {
	t.Helper()
	out := []sample{
		{"(ab)*, later", late(pairs()), 0},
		{"(ab)*, two times", doubled(pairs()), 0},
		{"rising 3, two times", doubled(rising(3)), 0},
		{"seen 3, by number", accepting(seen(3), func(s int) bool { return s%3 == 1 }), 8},
		{"seen 3, few or many", accepting(seen(3), func(s int) bool { return s == 0 || s == 7 }), 8},
		{"nothing accepted", accepting(pairs(), func(s int) bool { return false }), 6},
		{"all accepted", accepting(rising(3), func(s int) bool { return true }), 5},
		{"a ring of 2, all of it", accepting(part{0, 0, 2}.auto(1), func(s int) bool { return true }), 2},
		{"permutations of 3, none", accepting(turns(3), func(s int) bool { return false }), 6},
		{"a ring of 4, half of it", accepting(part{0, 0, 4}.auto(1), func(s int) bool { return s%2 == 1 }), 4},
		{"states that are not met", joined(pairs(), part{1, 1, 3}.auto(2)), 0},
		{"(ab)* is not met", joined(still(2, 1), pairs()), 6},
		{"(aa)* is not met", joined(still(1, 1), part{0, 0, 2}.auto(1)), 2},
		{"seen 3, from its last state", from(seen(3), 7), 8},
		{"seen 3 twice, from its last state", from(doubled(seen(3)), 7), 0},
		{"both ends", bothEnds(2), 5},
		{"both ends of 3 letters", bothEnds(3), 10},
		{"3 last letters", lastLetter(3, 3), 4},
		{"3 first letters", firstLetter(3), 4},
		{"5 states that stay", still(3, 5), 1},
	}
	for d := dice(21); len(out) < 120; {
		a := d.auto(1+d.below(3), 1+d.below(4))
		if m, e := monoid.Build(a); e == api.OK && m.Len() <= 60 {
			out = append(out, sample{"thrown: " + brief(a), a, m.Len()})
		}
	}
	return out
}

// smallOnes have few elements.
func smallOnes(t *testing.T) []sample {
	t.Helper()
	return append(minimalOnes(t), others(t)...)
}

// greatMinimal have many elements, and automata that are minimal and all of whose states are met.
func greatMinimal() []sample {
	return []sample{
		{"permutations of 5", atFirst(turns(5)), 120},
		{"even permutations of 5", atFirst(threes(5)), 60},
		{"halves of 8", atFirst(halved(3)), 128},
		{"rings of 7 and 9", counters(7, 9), 63},
		{"all maps of 3", atFirst(allMaps(3)), 27},
		{"all maps of 4", atLast(allMaps(4)), 256},
		{"parts of 4", atLast(partial(4)), 209},
		{"bending 5", bending(5), 126},
		{"rising 6", rising(6), 132},
		{"rising 6, not", not(rising(6)), 132},
		{"rising 7", rising(7), 429},
		{"seen 6", seen(6), 64},
		{"seen 6, not", not(seen(6)), 64},
		{"8 letters again and again", around(8), 66},
		{"a way of 64", atLast(part{0, 63, 1}.auto(1)), 64},
		{"63 letters of 8", many(8, 63), 64},
		{"one letter again, 6 times", together(together(seen(2), seen(2)), seen(2)), 64},
		{"three squares", atFirst(together(together(mirrored(4), mirrored(4)), mirrored(4))), 512},
	}
}

// greatOnes have many elements.
func greatOnes() []sample {
	return append(greatMinimal(),
		sample{"512 powers", powers(8), 512},
		sample{"seen 6, in threes", accepting(seen(6), func(s int) bool { return s&7 == 7 || s>>3 == 7 }), 64},
		sample{"seen 6, all", accepting(seen(6), func(s int) bool { return true }), 64},
		sample{"all maps of 4, two times", doubled(atFirst(allMaps(4))), 488},
		sample{"rising 6, two times", doubled(rising(6)), 263},
		sample{"permutations of 5, later", late(atFirst(turns(5))), 121},
	)
}

// dice answers numbers that look thrown and are the same at each run.
type dice uint64

func (d *dice) roll() uint64 {
	x := uint64(*d)
	x ^= x << 13
	x ^= x >> 7
	x ^= x << 17
	*d = dice(x)
	return x
}

func (d *dice) below(n int) int { return int(d.roll() >> 11 % uint64(n)) }

func (d *dice) auto(k, n int) api.Auto {
	a := of(k, n, func(s, l int) int { return d.below(n) })
	return accepting(a, func(s int) bool { return d.below(2) == 0 })
}

// built is Build where it must be answered.
func built(t *testing.T, a api.Auto) *monoid.Monoid {
	t.Helper()
	out, e := monoid.Build(a)
	if out == nil || e != api.OK {
		t.Fatalf("Build of %s: %v, %d", brief(a), out != nil, e)
	}
	return out
}

// visit goes through samples with their monoids, until one of them fails.
func visit(t *testing.T, all []sample, look func(name string, m *monoid.Monoid)) {
	t.Helper()
	for _, s := range all {
		m := built(t, s.a)
		if s.elems > 0 && m.Len() != s.elems {
			t.Fatalf("%s: %d elements", s.name, m.Len())
		}
		look(s.name, m)
		if t.Failed() {
			return
		}
	}
}

// must is an answer that no error may stand beside.
func must[T any](t *testing.T) func(T, api.Errno) T {
	return func(out T, e api.Errno) T {
		t.Helper()
		if e != api.OK {
			t.Fatalf("error %d, should be OK", e)
		}
		return out
	}
}

// identities is Identities, test is Test, and all is All where they must be answered.
func identities(t *testing.T, class string) []string {
	t.Helper()
	out, e := tests.Identities(class)
	if e != api.OK {
		t.Fatalf("Identities(%q): %v, %d", class, out, e)
	}
	return out
}

func test(t *testing.T, m *monoid.Monoid, class string) bool {
	t.Helper()
	is, e := tests.Test(m, class)
	if e != api.OK {
		t.Fatalf("of %d elements: Test(%q): %v, %d", m.Len(), class, is, e)
	}
	return is
}

func all(t *testing.T, m *monoid.Monoid) []string {
	t.Helper()
	out, e := tests.All(m)
	if e != api.OK {
		t.Fatalf("of %d elements: All: %v, %d", m.Len(), out, e)
	}
	return out
}

// classes is what All answers, as a set, where Test answers the same of each class.
func classes(t *testing.T, m *monoid.Monoid) map[string]bool {
	t.Helper()
	out := map[string]bool{}
	for _, name := range all(t, m) {
		out[name] = true
	}
	for _, name := range names() {
		if is := test(t, m, name); is != out[name] {
			t.Fatalf("%s: Test of %s is %v, All %v", brief(m.Auto()), name, is, out)
		}
	}
	return out
}

// identitiesNot, testNot and allNot hold the calls to an error alone.
func identitiesNot(t *testing.T, class string) {
	t.Helper()
	if l, e := tests.Identities(class); len(l) > 0 || e != api.ErrClass {
		t.Fatalf("Identities(%q): %v, %d; should be ErrClass", class, l, e)
	}
}

func testNot(t *testing.T, m *monoid.Monoid, class string, should api.Errno) {
	t.Helper()
	if is, e := tests.Test(m, class); is || e != should {
		t.Fatalf("of %d elements: Test(%q): %v, %d; should be error %d", m.Len(), class, is, e, should)
	}
}

func allNot(t *testing.T, m *monoid.Monoid) {
	t.Helper()
	if l, e := tests.All(m); len(l) > 0 || e != api.ErrArg {
		t.Fatalf("All: %v, %d; should be ErrArg", l, e)
	}
}

// brief is an automaton as a message may show it.
func brief(a api.Auto) string {
	return fmt.Sprint(a.Letters, " letters, ", len(a.Accept), " states ", a.Next[:min(40, len(a.Next))], a.Accept[:min(20, len(a.Accept))])
}
