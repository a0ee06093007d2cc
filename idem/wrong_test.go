package idem_test

import (
	"math"
	"testing"

	"eggbox/api"
	"eggbox/idem"
	"eggbox/monoid"
)

// answers are what all calls answer of two elements.
type answers struct {
	idempotent, regular, below     bool
	omega, index, period, exponent int
	list, inverses, between        []int
	errors                         [9]api.Errno // in the chapter's order: Idempotent, List, Omega, Cycle, Exponent, Regular, Inverses, Below, Between
}

// Places of the errors of calls that are handed no element, or idempotents.
const (
	atList     = 1
	atExponent = 4
	atBelow    = 7
	atBetween  = 8
)

func everyAnswer(m *monoid.Monoid, i, j int) answers {
	var out answers
	out.idempotent, out.errors[0] = idem.Idempotent(m, i)
	out.list, out.errors[atList] = idem.List(m)
	out.omega, out.errors[2] = idem.Omega(m, i)
	out.index, out.period, out.errors[3] = idem.Cycle(m, i)
	out.exponent, out.errors[atExponent] = idem.Exponent(m)
	out.regular, out.errors[5] = idem.Regular(m, i)
	out.inverses, out.errors[6] = idem.Inverses(m, i)
	out.below, out.errors[atBelow] = idem.Below(m, i, j)
	out.between, out.errors[atBetween] = idem.Between(m, i)
	return out
}

// nothingBesideErrors: is zero what stands beside an error?
func (a answers) nothingBesideErrors() bool {
	for at, zero := range [9]bool{!a.idempotent, len(a.list) == 0, a.omega == 0, a.index == 0 && a.period == 0, a.exponent == 0, !a.regular, len(a.inverses) == 0, !a.below, len(a.between) == 0} {
		if a.errors[at] != api.OK && !zero {
			return false
		}
	}
	return true
}

// shouldBe are the errors of all calls by the chapter, in its order.
func shouldBe(m *monoid.Monoid, i, j int) [9]api.Errno {
	isElement := func(x int) bool { return x >= 0 && x < m.Len() }
	isIdempotent := func(x int) bool {
		p, e := m.Product(x, x)
		return p == x && e == api.OK
	}
	var out [9]api.Errno
	if !isElement(i) {
		for at := range out {
			if at != atList && at != atExponent {
				out[at] = api.ErrRange
			}
		}
	} else if !isIdempotent(i) {
		out[atBelow], out[atBetween] = api.ErrIdem, api.ErrIdem
	}
	if isElement(i) && !isElement(j) {
		out[atBelow] = api.ErrRange
	} else if isElement(i) && !isIdempotent(j) {
		out[atBelow] = api.ErrIdem
	}
	return out
}

// holdsErrors asks all calls, and holds their errors.
func holdsErrors(t *testing.T, name string, m *monoid.Monoid, i, j int) [9]api.Errno {
	t.Helper()
	got := everyAnswer(m, i, j)
	if got.errors != shouldBe(m, i, j) || !got.nothingBesideErrors() {
		t.Fatalf("%s: %d, %d: %+v; the errors should be %v", name, i, j, got, shouldBe(m, i, j))
	}
	return got.errors
}

// TestP16_1P16_2P16_3P16_4NoElement: below 0, at how many there are and far past it, as the first one, the second one and both.
func TestP16_1P16_2P16_3P16_4NoElement(t *testing.T) {
	for _, s := range samples() {
		m := built(t, s.a)
		last := m.Len() - 1
		for _, none := range outside(m.Len()) {
			for at, e := range everyAnswer(m, none, 0).errors {
				if should := at != atList && at != atExponent; should != (e == api.ErrRange) {
					t.Fatalf("%s: %d is no element; call %d: %d", s.name, none, at, e)
				}
			}
			for _, p := range [][2]int{{none, 0}, {0, none}, {none, none}, {none, last}, {last, none}} {
				holdsErrors(t, s.name, m, p[0], p[1])
				if is, e := idem.Below(m, p[0], p[1]); is || e != api.ErrRange {
					t.Fatalf("%s: Below(%v) is %v, %d", s.name, p, is, e)
				}
			}
		}
		holdsErrors(t, s.name, m, last, last)
		holdsErrors(t, s.name, m, 0, 0)
	}
}

// TestP16_4NoIdempotent: the first one, the second one, both.
func TestP16_4NoIdempotent(t *testing.T) {
	met := 0
	for _, s := range samples() {
		m := built(t, s.a)
		for i := range m.Len() {
			if must[int](t)(m.Product(i, i)) == i {
				continue
			}
			met++
			if l, e := idem.Between(m, i); len(l) != 0 || e != api.ErrIdem {
				t.Fatalf("%s: Between(%d) is %v, %d", s.name, i, l, e)
			}
			for _, p := range [][2]int{{i, 0}, {0, i}, {i, i}} {
				if is, e := idem.Below(m, p[0], p[1]); is || e != api.ErrIdem {
					t.Fatalf("%s: Below(%v) is %v, %d", s.name, p, is, e)
				}
			}
		}
	}
	if met < 1000 {
		t.Errorf("%d elements are no idempotents", met)
	}
}

// TestP16_4NoElementAheadOfNoIdempotent: where one of the two is no element and the other no idempotent, the first is told, whichever stands first.
func TestP16_4NoElementAheadOfNoIdempotent(t *testing.T) {
	m := built(t, pairs())
	for _, none := range outside(6) {
		for _, i := range []int{1, 2} {
			for _, p := range [][2]int{{i, none}, {none, i}} {
				if is, e := idem.Below(m, p[0], p[1]); is || e != api.ErrRange {
					t.Errorf("Below(%v) is %v, %d", p, is, e)
				}
			}
		}
	}
}

// isNone holds a monoid to the answers of such as are none: this error comes ahead of all others.
func isNone(t *testing.T, m *monoid.Monoid) {
	t.Helper()
	for _, i := range []int{0, 1, 3, -1, 5, 512, math.MinInt, math.MaxInt} {
		for _, j := range []int{0, 1, -1, 512, math.MinInt, math.MaxInt} {
			got := everyAnswer(m, i, j)
			for at, e := range got.errors {
				if e != api.ErrArg || !got.nothingBesideErrors() {
					t.Fatalf("no monoid: %d, %d: call %d: %+v", i, j, at, got)
				}
			}
		}
	}
}

func TestP16_1P16_2P16_3P16_4NoMonoid(t *testing.T) {
	isNone(t, nil)
	isNone(t, &monoid.Monoid{})
	isNone(t, new(monoid.Monoid))
	var zero monoid.Monoid
	isNone(t, &zero)
	refused, e := monoid.Build(turns(6))
	if e != api.ErrElems {
		t.Errorf("Build of 720 elements: %d", e)
	}
	isNone(t, refused)
}

// TestP16_1P16_2P16_3P16_4ACopyIsNone: Build did not make it, and the monoid stays what it is.
func TestP16_1P16_2P16_3P16_4ACopyIsNone(t *testing.T) {
	m := built(t, pairs())
	before := portrait(m)
	other := *m
	isNone(t, &other)
	if portrait(m) != before {
		t.Error("a copy was made, and the monoid has other answers")
	}
}

// TestP1EveryInputEndsWithoutPanic: any numbers; each call answers its error alone, in their order.
func TestP1EveryInputEndsWithoutPanic(t *testing.T) {
	d := dice(7)
	met := map[api.Errno]int{}
	all := samples()
	var monoids []*monoid.Monoid
	for _, s := range all {
		monoids = append(monoids, built(t, s.a))
	}
	for range 3000 {
		at := d.below(len(all))
		n := monoids[at].Len()
		numbers := [2]int{d.below(n+3) - 1, d.below(n+3) - 1}
		if d.below(10) == 0 {
			numbers[d.below(2)] = int(d.roll()) >> d.below(64)
		}
		for _, e := range holdsErrors(t, all[at].name, monoids[at], numbers[0], numbers[1]) {
			met[e]++
		}
	}
	for _, e := range []api.Errno{api.OK, api.ErrRange, api.ErrIdem} {
		if met[e] < 1000 {
			t.Errorf("of the calls %v", met)
		}
	}
}
