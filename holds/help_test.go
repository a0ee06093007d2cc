package holds_test

import (
	"fmt"
	"math"
	"slices"
	"strconv"
	"testing"

	"eggbox/api"
	"eggbox/holds"
	"eggbox/monoid"
	"eggbox/terms"
)

// sample is an automaton, and how many elements its monoid has (0, if that isn't told).
type sample struct {
	name  string
	a     api.Auto
	elems int
}

// smallMinimal have few elements, and minimal automata.
func smallMinimal() []sample {
	out := []sample{
		{"the chapter's", pairs(), 6},
		{"(aa)*", atFirst(part{0, 0, 2}.auto(1)), 2},
		{"a ring of 5", atFirst(part{0, 0, 5}.auto(1)), 5},
		{"a way of 4", atLast(part{0, 3, 1}.auto(1)), 4},
		{"a way into a ring", atLast(part{0, 3, 4}.auto(1)), 7},
		{"permutations of 3", atFirst(turns(3)), 6},
		{"all maps of 2", atFirst(allMaps(2)), 4},
		{"parts of 2", atFirst(partial(2)), 7},
		{"rising 3", rising(3), 5},
		{"rising 4", rising(4), 14},
		{"bending 3", bending(3), 10},
		{"seen 2", seen(2), 4},
		{"seen 3", seen(3), 8},
		{"abc again and again", around(3), 11},
		{"one state", still(1, 1), 1},
		{"one state of 8 letters", still(8, 1), 1},
	}
	for _, s := range slices.Clone(out) {
		out = append(out, sample{s.name + ", not", not(s.a), s.elems})
	}
	return out
}

// smallOnes have few elements.
func smallOnes() []sample {
	out := append(smallMinimal(),
		sample{"(ab)*, later", late(pairs()), 0},
		sample{"(ab)*, two times", doubled(pairs()), 0},
		sample{"rising 3, two times", doubled(rising(3)), 0},
		sample{"seen 3, by number", accepting(seen(3), func(s int) bool { return s%3 == 1 }), 8},
		sample{"seen 3, few or many", accepting(seen(3), func(s int) bool { return s == 0 || s == 7 }), 8},
		sample{"nothing accepted", accepting(pairs(), func(s int) bool { return false }), 6},
		sample{"all accepted", accepting(rising(3), func(s int) bool { return true }), 5},
		sample{"a ring of 4, half of it", accepting(part{0, 0, 4}.auto(1), func(s int) bool { return s%2 == 1 }), 4},
		sample{"states that are not met", joined(pairs(), part{1, 1, 3}.auto(2)), 0},
		sample{"(ab)* is not met", joined(still(2, 1), pairs()), 6},
	)
	d := dice(20)
	for len(out) < 70 {
		a := d.auto(1+d.below(3), 1+d.below(4))
		if m, e := monoid.Build(a); e == api.OK && m.Len() <= 20 {
			out = append(out, sample{"thrown: " + brief(a), a, m.Len()})
		}
	}
	return out
}

// greatMinimal have many elements, and minimal automata.
func greatMinimal() []sample {
	return []sample{
		{"permutations of 5", atFirst(turns(5)), 120},
		{"all maps of 3", atFirst(allMaps(3)), 27},
		{"all maps of 4", atLast(allMaps(4)), 256},
		{"parts of 4", atLast(partial(4)), 209},
		{"bending 5", bending(5), 126},
		{"rising 6", rising(6), 132},
		{"rising 6, not", not(rising(6)), 132},
		{"rising 7", rising(7), 429},
		{"seen 6", seen(6), 64},
		{"seen 6, not", not(seen(6)), 64},
		{"8 letters again and again", around(8), 66},
		{"a way of 64", atLast(part{0, 63, 1}.auto(1)), 64},
		{"three squares", atFirst(together(together(mirrored(4), mirrored(4)), mirrored(4))), 512},
	}
}

// greatOnes have many elements.
func greatOnes() []sample {
	return append(greatMinimal(),
		sample{"512 powers", powers(8), 512},
		sample{"seen 6, few or many", accepting(seen(6), func(s int) bool { return s&7 == 7 || s>>3 == 7 || s == 0 }), 64},
		sample{"all maps of 4, two times", doubled(atFirst(allMaps(4))), 488},
		sample{"rising 6, two times", doubled(rising(6)), 263},
		sample{"permutations of 5, later", late(atFirst(turns(5))), 121},
	)
}

// dice answers numbers that look thrown and are the same at each run.
type dice uint64

func (d *dice) roll() uint64 {
	x := uint64(*d)
	x ^= x << 13
	x ^= x >> 7
	x ^= x << 17
	*d = dice(x)
	return x
}

func (d *dice) below(n int) int { return int(d.roll() >> 11 % uint64(n)) }

func (d *dice) auto(k, n int) api.Auto {
	a := of(k, n, func(s, l int) int { return d.below(n) })
	return accepting(a, func(s int) bool { return d.below(2) == 0 })
}

// side is one of that many signs, most of whose leaves are of these variables.
func (d *dice) side(signs int, names string) []api.Sign {
	switch {
	case signs == 1 && (names == "" || d.below(8) == 0):
		return []api.Sign{{Kind: api.One}}
	case signs == 1:
		return []api.Sign{{Kind: api.Var, Name: names[d.below(len(names))]}}
	case signs == 2 || d.below(4) == 0:
		return append(d.side(signs-1, names), api.Sign{Kind: api.Omega})
	}
	first := 1 + d.below(signs-2)
	return append(append(d.side(first, names), d.side(signs-1-first, names)...), api.Sign{Kind: api.Mul})
}

func (d *dice) id(signs int, names string) api.Identity {
	return api.Identity{Left: d.side(1+d.below(signs), names), Right: d.side(1+d.below(signs), names), Less: d.below(2) == 0}
}

// from are so many numbers below n, some of them more than once.
func (d *dice) from(n, many int) []int {
	var out []int
	for range many {
		out = append(out, d.below(n))
		if d.below(4) == 0 {
			out[len(out)-1] = out[d.below(len(out))]
		}
	}
	return out
}

// known are texts of identities, of all variables and of some.
func known() []string {
	return []string{"1 = 1", "1 <= 1", "1^w = 1(11)", "x = 1", "x^w = 1", "xx = x", "xy = yx", "x^w x = x^w", "(xy)^w x = (xy)^w", "y(xy)^w = (xy)^w",
		"((xy)^w(yx)^w(xy)^w)^w = (xy)^w", "(x^w y^w)^w = (y^w x^w)^w", "x^w y = y x^w", "1 <= x", "x <= 1", "x <= xx", "xx <= x", "x^w <= x^w x", "xy <= yx", "xyx <= x", "x <= xyx",
		"y = x", "x = y", "y = 1", "t = tt", "z^w <= z", "yt = ty", "t <= y", "y^w t = t y^w", "zx = xz", "tx <= xt", "xyz = zyx", "x(yz) = (xy)z", "xyz <= xzy", "tzy = ty", "yyt^w <= zz",
		"xyzt = xzyt", "tzyx = xyzt", "x^w y^w z^w t^w = (xyzt)^w", "xx = xxx", "x^w^w = x^w", "xyxy = xxyy", "xxx = 1", "xyx^w <= x1y"}
}

// parsed is the identity that a text tells.
func parsed(t *testing.T, text string) api.Identity {
	t.Helper()
	id, _, e := terms.Parse(text)
	if e != api.OK {
		t.Fatalf("Parse(%q): %d", text, e)
	}
	return id
}

// identities are the known ones, and thrown ones of at most so many signs a side and so many variables.
func identities(t *testing.T, thrown, signs, variables int) []api.Identity {
	t.Helper()
	var out []api.Identity
	for _, text := range known() {
		if id := parsed(t, text); len(variablesOf(id)) <= variables {
			out = append(out, id)
		}
	}
	names := []string{"x", "xy", "yt", "z", "xyz", "xzt", "xyzt", "t"}
	names = slices.DeleteFunc(names, func(s string) bool { return len(s) > variables })
	d := dice(thrown + 1)
	for range thrown {
		out = append(out, d.id(signs, names[d.below(len(names))]))
	}
	return out
}

// variablesOf are those that occur, in their order.
func variablesOf(id api.Identity) string {
	out := ""
	for _, name := range "xyzt" {
		if is := (api.Sign{Kind: api.Var, Name: byte(name)}); slices.Contains(id.Left, is) || slices.Contains(id.Right, is) {
			out += string(name)
		}
	}
	return out
}

// exchanged has its sides changed with one another.
func exchanged(id api.Identity) api.Identity {
	return api.Identity{Left: id.Right, Right: id.Left, Less: id.Less}
}

// with is the identity with Less, or without.
func with(id api.Identity, less bool) api.Identity {
	id.Less = less
	return id
}

// outside are numbers that are no places of n.
func outside(n int) []int {
	var out []int
	for _, i := range []int{-1, -2, -n, n, n + 1, 2*n + 1, 512, 513, 1 << 16, 1<<16 + n, 1 << 32, -1 << 32, math.MinInt, math.MinInt + 1, math.MaxInt} {
		if i < 0 || i >= n {
			out = append(out, i)
		}
	}
	return out
}

// numbers are 0 to n - 1.
func numbers(n int) []int {
	var out []int
	for i := range n {
		out = append(out, i)
	}
	return out
}

// built is Build where it must be answered.
func built(t *testing.T, a api.Auto) *monoid.Monoid {
	t.Helper()
	out, e := monoid.Build(a)
	if out == nil || e != api.OK {
		t.Fatalf("Build of %s: %v, %d", brief(a), out != nil, e)
	}
	return out
}

// visit goes through samples with their monoids, until one of them fails.
func visit(t *testing.T, all []sample, look func(name string, m *monoid.Monoid)) {
	t.Helper()
	for _, s := range all {
		m := built(t, s.a)
		if s.elems > 0 && m.Len() != s.elems {
			t.Fatalf("%s: %d elements", s.name, m.Len())
		}
		look(s.name, m)
		if t.Failed() {
			return
		}
	}
}

// must is an answer that no error may stand beside.
func must[T any](t *testing.T) func(T, api.Errno) T {
	return func(out T, e api.Errno) T {
		t.Helper()
		if e != api.OK {
			t.Fatalf("error %d, should be OK", e)
		}
		return out
	}
}

// verdict is what Holds and HoldsIn answer.
type verdict struct {
	is     bool
	values []int
}

func (v verdict) same(w verdict) bool { return v.is == w.is && slices.Equal(v.values, w.values) }

// all is Holds, and in is HoldsIn, where they must be answered.
func all(t *testing.T, m *monoid.Monoid, id api.Identity) verdict {
	t.Helper()
	is, values, e := holds.Holds(m, id)
	if e != api.OK || is && len(values) > 0 {
		t.Fatalf("of %d elements: Holds(%s): %v, %v, %d", m.Len(), show(id), is, values, e)
	}
	return verdict{is, values}
}

func in(t *testing.T, m *monoid.Monoid, id api.Identity, list []int) verdict {
	t.Helper()
	is, values, e := holds.HoldsIn(m, id, list)
	if e != api.OK || is && len(values) > 0 {
		t.Fatalf("of %d elements: HoldsIn(%s, %v): %v, %v, %d", m.Len(), show(id), cut(list), is, values, e)
	}
	return verdict{is, values}
}

// fails and count are Fails and Count where they must be answered.
func fails(t *testing.T, m *monoid.Monoid, id api.Identity, values []int) bool {
	t.Helper()
	is, e := holds.Fails(m, id, values)
	if e != api.OK {
		t.Fatalf("of %d elements: Fails(%s, %v): %d", m.Len(), show(id), values, e)
	}
	return is
}

func count(t *testing.T, m *monoid.Monoid, id api.Identity) int {
	t.Helper()
	n, e := holds.Count(m, id)
	if e != api.OK || n < 0 {
		t.Fatalf("of %d elements: Count(%s): %d, %d", m.Len(), show(id), n, e)
	}
	return n
}

// failsNot, holdsNot, holdsNotIn and countsNot hold the calls to an error alone.
func failsNot(t *testing.T, m *monoid.Monoid, id api.Identity, values []int, should api.Errno) {
	t.Helper()
	if is, e := holds.Fails(m, id, values); is || e != should {
		t.Fatalf("of %d elements: Fails(%s, %v): %v, %d; should be error %d", m.Len(), show(id), cut(values), is, e, should)
	}
}

func holdsNot(t *testing.T, m *monoid.Monoid, id api.Identity, should api.Errno) {
	t.Helper()
	if is, l, e := holds.Holds(m, id); is || len(l) > 0 || e != should {
		t.Fatalf("of %d elements: Holds(%s): %v, %v, %d; should be error %d", m.Len(), show(id), is, l, e, should)
	}
	if n, e := holds.Count(m, id); n != 0 || e != should {
		t.Fatalf("of %d elements: Count(%s): %d, %d; should be error %d", m.Len(), show(id), n, e, should)
	}
}

func holdsNotIn(t *testing.T, m *monoid.Monoid, id api.Identity, list []int, should api.Errno) {
	t.Helper()
	if is, l, e := holds.HoldsIn(m, id, list); is || len(l) > 0 || e != should {
		t.Fatalf("of %d elements: HoldsIn(%s, %v): %v, %v, %d; should be error %d", m.Len(), show(id), cut(list), is, l, e, should)
	}
}

// show is an identity as a message may show it: its text, or, if it has none, its signs.
func show(id api.Identity) string {
	if s, e := terms.Print(id); e == api.OK {
		return s[:min(len(s), 200)]
	}
	return fmt.Sprint(len(id.Left), id.Left[:min(30, len(id.Left))], len(id.Right), id.Right[:min(30, len(id.Right))], id.Less)
}

// cut is the beginning of a list.
func cut(l []int) string {
	return strconv.Itoa(len(l)) + fmt.Sprint(l[:min(12, len(l))])
}

// brief is an automaton as a message may show it.
func brief(a api.Auto) string {
	return fmt.Sprint(a.Letters, " letters, ", len(a.Accept), " states ", a.Next[:min(40, len(a.Next))], a.Accept[:min(20, len(a.Accept))])
}
