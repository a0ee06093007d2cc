package holds_test

import (
	"slices"
	"testing"

	"eggbox/api"
	"eggbox/holds"
	"eggbox/monoid"
	"eggbox/terms"
)

// noSides are lists that are no sides, of at most MaxSigns signs; longSides have more.
func noSides() [][]api.Sign {
	x := api.Sign{Kind: api.Var, Name: 'x'}
	one, mul, omega := api.Sign{Kind: api.One}, api.Sign{Kind: api.Mul}, api.Sign{Kind: api.Omega}
	return [][]api.Sign{nil, {}, {mul}, {omega}, {x, x}, {x, mul}, {mul, x, x}, {omega, x}, {x, mul, x}, {x, x, x, mul}, {x, mul, mul}, {one, one},
		{{Kind: 0}}, {{Kind: 5}}, {{Kind: -1}}, {{Kind: api.Var}}, {{Kind: api.Var, Name: 'u'}}, {{Kind: api.Var, Name: 'X'}}, {{Kind: api.One, Name: 'x'}}, {x, {Kind: api.Omega, Name: 'w'}}, {x, x, {Kind: api.Mul, Name: 'y'}},
		slices.Repeat([]api.Sign{x}, 400), make([]api.Sign, 400), slices.Repeat([]api.Sign{omega}, 400)}
}

func longSides() [][]api.Sign {
	x, omega := []api.Sign{{Kind: api.Var, Name: 'x'}}, []api.Sign{{Kind: api.Omega}}
	return [][]api.Sign{append(slices.Clone(x), slices.Repeat(omega, 400)...), slices.Repeat(x, 401), make([]api.Sign, 401), make([]api.Sign, 1<<20)}
}

// refused holds all calls of an identity to that error, whatever the values and the list are.
func refused(t *testing.T, m *monoid.Monoid, id api.Identity, should api.Errno) {
	t.Helper()
	holdsNot(t, m, id, should)
	for _, l := range [][]int{nil, {}, {0}, {0, 0}, {-1}, {m.Len()}, {0, 512}, make([]int, 5), make([]int, 70), slices.Repeat([]int{-1}, 70), make([]int, 5000)} {
		failsNot(t, m, id, l, should)
		holdsNotIn(t, m, id, l, should)
	}
}

// TestP20_1P20_2P20_3P20_4NoIdentity: what terms.Check refuses comes ahead of values, lists and how much work there is.
func TestP20_1P20_2P20_3P20_4NoIdentity(t *testing.T) {
	right := parsed(t, "xyzt = tzyx").Left
	for _, s := range slices.Concat(smallOnes()[:20], greatOnes()[:1], greatOnes()[12:14]) {
		m := built(t, s.a)
		for _, less := range []bool{false, true} {
			for _, side := range noSides() {
				refused(t, m, api.Identity{Left: side, Right: right, Less: less}, api.ErrTerm)
				refused(t, m, api.Identity{Left: right, Right: side, Less: less}, api.ErrTerm)
				refused(t, m, api.Identity{Left: side, Right: side, Less: less}, api.ErrTerm)
			}
			for _, side := range longSides() {
				refused(t, m, api.Identity{Left: side, Right: right, Less: less}, api.ErrSize)
				refused(t, m, api.Identity{Left: right, Right: side, Less: less}, api.ErrSize)
				refused(t, m, api.Identity{Left: noSides()[0], Right: side, Less: less}, api.ErrSize)
				refused(t, m, api.Identity{Left: side, Right: noSides()[5], Less: less}, api.ErrSize)
			}
		}
	}
}

// isNoMonoid holds all calls to what they answer of a monoid that is none: this error comes ahead of all others.
func isNoMonoid(t *testing.T, m *monoid.Monoid) {
	t.Helper()
	right := parsed(t, "xyzt = tzyx").Left
	for _, side := range slices.Concat(noSides(), longSides(), [][]api.Sign{right, {{Kind: api.One}}, {{Kind: api.Var, Name: 'y'}}}) {
		for _, less := range []bool{false, true} {
			refused(t, m, api.Identity{Left: side, Right: right, Less: less}, api.ErrArg)
			refused(t, m, api.Identity{Left: side, Right: side, Less: less}, api.ErrArg)
		}
	}
	for _, text := range known() {
		refused(t, m, parsed(t, text), api.ErrArg)
	}
}

func TestP20_1P20_2P20_3P20_4NoMonoid(t *testing.T) {
	isNoMonoid(t, nil)
	isNoMonoid(t, &monoid.Monoid{})
	isNoMonoid(t, new(monoid.Monoid))
	var zero monoid.Monoid
	isNoMonoid(t, &zero)
	unmade, e := monoid.Build(turns(6))
	if e != api.ErrElems {
		t.Errorf("Build of 720 elements: %d", e)
	}
	isNoMonoid(t, unmade)
	unmade, e = monoid.Build(still(1, 65))
	if e != api.ErrStates {
		t.Errorf("Build of 65 states: %d", e)
	}
	isNoMonoid(t, unmade)
	m := built(t, pairs())
	other := *m
	isNoMonoid(t, &other)
	if n := count(t, m, parsed(t, "xy = yx")); n != 10 {
		t.Errorf("a copy was made, and Count is %d", n)
	}
}

// TestP20_1P20_3NoElement: below 0, at how many there are and far past it; at each place.
func TestP20_1P20_3NoElement(t *testing.T) {
	visit(t, slices.Concat(smallOnes(), greatOnes()), func(name string, m *monoid.Monoid) {
		for _, text := range []string{"x = x", "y = 1", "xy = yx", "t <= y t", "xyz = 1", "xyzt <= 1"} {
			id := parsed(t, text)
			n := len(variablesOf(id))
			for _, none := range outside(m.Len()) {
				for at := range n {
					values := slices.Repeat([]int{m.Len() - 1}, n)
					values[at] = none
					failsNot(t, m, id, values, api.ErrRange)
					holdsNotIn(t, m, id, values, api.ErrRange)
				}
				failsNot(t, m, id, slices.Repeat([]int{none}, n), api.ErrRange)
				holdsNotIn(t, m, id, []int{none}, api.ErrRange)
				holdsNotIn(t, m, id, append(make([]int, 300), none), api.ErrRange)
				holdsNotIn(t, m, id, append([]int{none}, make([]int, 5000)...), api.ErrRange)
			}
		}
	})
}

// errorsOf are those of Fails, HoldsIn and Holds, the chapter's in its order.
func errorsOf(m *monoid.Monoid, id api.Identity, values, list []int) (fails, in, all api.Errno) {
	if m.Len() == 0 {
		return api.ErrArg, api.ErrArg, api.ErrArg
	}
	if e := terms.Check(id); e != api.OK {
		return e, e, e
	}
	n := len(variablesOf(id))
	wrong := func(i int) bool { return i < 0 || i >= m.Len() }
	work := func(size int) bool {
		power := 1.0
		for range n {
			power *= float64(size)
		}
		return power > 1<<24
	}
	switch {
	case len(values) != n:
		fails = api.ErrSize
	case slices.ContainsFunc(values, wrong):
		fails = api.ErrRange
	}
	switch {
	case slices.ContainsFunc(list, wrong):
		in = api.ErrRange
	case work(len(list)):
		in = api.ErrWork
	}
	if work(m.Len()) {
		all = api.ErrWork
	}
	return fails, in, all
}

// TestP1EveryInputEndsWithoutPanic: any signs and numbers; each call answers its error alone, in their order.
func TestP1EveryInputEndsWithoutPanic(t *testing.T) {
	d := dice(201)
	monoids := []*monoid.Monoid{nil, {}}
	for _, s := range slices.Concat(smallOnes()[:24], greatOnes()) {
		monoids = append(monoids, built(t, s.a))
	}
	met := map[api.Errno]int{}
	for range 5000 {
		m := monoids[d.below(len(monoids))]
		id := d.id(8, []string{"xyzt", "x", "yt", "", "xyz"}[d.below(5)])
		if d.below(4) == 0 {
			id.Left = d.anySigns()
		}
		if d.below(8) == 0 {
			id.Right = d.anySigns()
		}
		values, list := d.numbers(len(variablesOf(id))+d.below(3)/2, m.Len()), d.numbers(d.below(1<<d.below(8)), m.Len())
		one, two, three := errorsOf(m, id, values, list)
		if d.below(10) == 0 && two != api.ErrRange {
			list = append(list, make([]int, 300)...)
			one, two, three = errorsOf(m, id, values, list)
		}
		met[one], met[two], met[three] = met[one]+1, met[two]+1, met[three]+1
		if _, e := holds.Fails(m, id, values); e != one {
			t.Fatalf("of %d elements: Fails(%s, %s): %d; should be %d", m.Len(), show(id), cut(values), e, one)
		} else if e != api.OK {
			failsNot(t, m, id, values, one)
		}
		if two != api.OK {
			holdsNotIn(t, m, id, list, two)
		} else {
			in(t, m, id, list)
		}
		if three != api.OK {
			holdsNot(t, m, id, three)
		} else {
			all(t, m, id)
		}
	}
	for _, e := range []api.Errno{api.OK, api.ErrArg, api.ErrSize, api.ErrTerm, api.ErrRange, api.ErrWork} {
		if met[e] < 100 {
			t.Errorf("of the calls %v", met)
		}
	}
}

// anySigns is a list of signs, such as are none among them.
func (d *dice) anySigns() []api.Sign {
	var out []api.Sign
	for range d.below(1 << d.below(10)) {
		s := api.Sign{Kind: 1 + d.below(4)}
		if s.Kind == api.Var {
			s.Name = "xyzt"[d.below(4)]
		}
		switch d.below(60) {
		case 0:
			s.Kind = int(d.roll()) >> d.below(64)
		case 1:
			s.Name = byte(d.roll())
		}
		out = append(out, s)
	}
	return out
}

// numbers are so many, most of them below n.
func (d *dice) numbers(many, n int) []int {
	var out []int
	for range many {
		i := d.below(n + 1)
		if i == n {
			i = d.below(max(n, 1))
		}
		if d.below(40) == 0 {
			i = []int{-1, n, int(d.roll()) >> d.below(64)}[d.below(3)]
		}
		out = append(out, i)
	}
	return out
}
