package idem_test

import (
	"slices"
	"strings"
	"testing"

	"eggbox/api"
	"eggbox/idem"
	"eggbox/monoid"
)

// circle is an answer of Cycle.
type circle struct{ index, period int }

func circleOf(t *testing.T, m *monoid.Monoid, i int) circle {
	t.Helper()
	index, period, e := idem.Cycle(m, i)
	if e != api.OK {
		t.Fatalf("Cycle(%d): error %d", i, e)
	}
	return circle{index, period}
}

// cycles holds Cycle and Omega of an element.
func cycles(t *testing.T, m *monoid.Monoid, i int, should circle, omega int) {
	t.Helper()
	if got := circleOf(t, m, i); got != should {
		t.Errorf("of %d elements: Cycle(%d) is %v; should be %v", m.Len(), i, got, should)
	}
	if got := must[int](t)(idem.Omega(m, i)); got != omega {
		t.Errorf("of %d elements: Omega(%d) is %d; should be %d", m.Len(), i, got, omega)
	}
}

// listed holds a list.
func listed(t *testing.T, name string, got []int, should ...int) {
	t.Helper()
	if !slices.Equal(got, should) {
		t.Errorf("%s is %v; should be %v", name, got, should)
	}
}

// exponent holds Exponent.
func exponent(t *testing.T, m *monoid.Monoid, should int) {
	t.Helper()
	if got := must[int](t)(idem.Exponent(m)); got != should {
		t.Errorf("of %d elements: Exponent is %d; should be %d", m.Len(), got, should)
	}
}

func TestP16_1Examples(t *testing.T) {
	m := built(t, pairs())
	for i, w := range []string{"", "a", "b", "aa", "ab", "ba"} {
		if got := must[int](t)(m.Element(w)); got != i {
			t.Fatalf("%q is the element %d", w, got)
		}
		if is := must[bool](t)(idem.Idempotent(m, i)); is != (i != 1 && i != 2) {
			t.Errorf("Idempotent of %q is %v", w, is)
		}
	}
	listed(t, "List", must[[]int](t)(idem.List(m)), 0, 3, 4, 5)
}

func TestP16_2Examples(t *testing.T) {
	m := built(t, pairs())
	cycles(t, m, 0, circle{0, 1}, 0)
	cycles(t, m, 1, circle{2, 1}, 3)
	cycles(t, m, 2, circle{2, 1}, 3)
	cycles(t, m, 3, circle{1, 1}, 3)
	cycles(t, m, 4, circle{1, 1}, 4)
	cycles(t, m, 5, circle{1, 1}, 5)
	exponent(t, m, 2)
	even := built(t, api.Auto{Letters: 1, Next: []int{1, 0}, Accept: []bool{true, false}})
	cycles(t, even, 0, circle{0, 1}, 0)
	cycles(t, even, 1, circle{0, 2}, 0)
	exponent(t, even, 2)
}

func TestP16_3Examples(t *testing.T) {
	m := built(t, pairs())
	for i, should := range []int{0, 2, 1, 3, 4, 5} {
		if !must[bool](t)(idem.Regular(m, i)) {
			t.Errorf("Regular(%d) is false", i)
		}
		listed(t, "Inverses", must[[]int](t)(idem.Inverses(m, i)), should)
	}
}

func TestP16_4Examples(t *testing.T) {
	m := built(t, pairs())
	above := map[int][]int{0: {0}, 3: {0, 3, 4, 5}, 4: {0, 4}, 5: {0, 5}}
	for e, list := range above {
		for f := range above {
			if is := must[bool](t)(idem.Below(m, e, f)); is != slices.Contains(list, f) {
				t.Errorf("Below(%d, %d) is %v", e, f, is)
			}
		}
	}
	for _, p := range [][2]int{{1, 4}, {4, 1}, {1, 1}, {2, 1}} {
		if is, e := idem.Below(m, p[0], p[1]); is || e != api.ErrIdem {
			t.Errorf("Below(%v) is %v, %d", p, is, e)
		}
	}
	listed(t, "Between(0)", must[[]int](t)(idem.Between(m, 0)), 0, 1, 2, 3, 4, 5)
	listed(t, "Between(3)", must[[]int](t)(idem.Between(m, 3)), 3)
	listed(t, "Between(4)", must[[]int](t)(idem.Between(m, 4)), 3, 4)
	listed(t, "Between(5)", must[[]int](t)(idem.Between(m, 5)), 3, 5)
}

func TestP16_1P16_2P16_3P16_4OneElement(t *testing.T) {
	for k := 1; k <= 8; k++ {
		for _, a := range []api.Auto{still(k, 1), still(k, 64)} {
			m := built(t, a)
			if !must[bool](t)(idem.Idempotent(m, 0)) || !must[bool](t)(idem.Regular(m, 0)) || !must[bool](t)(idem.Below(m, 0, 0)) {
				t.Errorf("%s: the identity is not as it should be", brief(a))
			}
			cycles(t, m, 0, circle{0, 1}, 0)
			exponent(t, m, 1)
			listed(t, "List", must[[]int](t)(idem.List(m)), 0)
			listed(t, "Inverses", must[[]int](t)(idem.Inverses(m, 0)), 0)
			listed(t, "Between", must[[]int](t)(idem.Between(m, 0)), 0)
		}
	}
}

// TestP16_1P16_2P16_3P16_4Groups: the identity is the one idempotent, all powers begin their circle at once, each element has one inverse.
func TestP16_1P16_2P16_3P16_4Groups(t *testing.T) {
	for _, c := range []struct {
		a        api.Auto
		exponent int
	}{{counters(2), 2}, {counters(3, 5), 15}, {counters(4, 6), 12}, {turns(3), 6}, {turns(4), 12}, {turns(5), 60}, {beside(1, part{0, 0, 64}), 64}, {counters(2, 2, 2, 2, 2, 2, 2, 4), 4}, {powers(0), 504}} {
		m := built(t, c.a)
		listed(t, "List", must[[]int](t)(idem.List(m)), 0)
		listed(t, "Between(0)", must[[]int](t)(idem.Between(m, 0)), numbers(m.Len())...)
		exponent(t, m, c.exponent)
		for i := range m.Len() {
			if circleOf(t, m, i).index != 0 || must[int](t)(idem.Omega(m, i)) != 0 || !must[bool](t)(idem.Regular(m, i)) {
				t.Fatalf("%s: %d is not as an element of a group", brief(c.a), i)
			}
			l := must[[]int](t)(idem.Inverses(m, i))
			if len(l) != 1 || must[int](t)(m.Product(i, l[0])) != 0 || must[int](t)(m.Product(l[0], i)) != 0 {
				t.Fatalf("%s: Inverses(%d) is %v", brief(c.a), i, l)
			}
		}
	}
}

// TestP16_2OneLetter: the powers of the letter go a way and round a ring; those of its powers, too, in longer steps.
func TestP16_2OneLetter(t *testing.T) {
	for tail := range 12 {
		for ring := 1; ring <= 12; ring++ {
			m := built(t, beside(1, part{0, tail, ring}))
			// The least multiple of the ring from 1 on that is behind the way.
			omega := ring
			for omega < tail {
				omega += ring
			}
			exponent(t, m, omega)
			at := func(n int) int { return must[int](t)(m.Power(min(1, m.Len()-1), uint64(n))) }
			cycles(t, m, at(1), circle{tail, ring}, at(omega))
			for n := 2; n < m.Len(); n++ {
				period := 1
				for n*period%ring != 0 {
					period++
				}
				cycles(t, m, at(n), circle{(tail + n - 1) / n, period}, at(omega))
			}
		}
	}
}

// TestP16_2ThePowerZeroIsNotMeant: where the circle begins behind it, Omega is another idempotent, though 0 is one.
func TestP16_2ThePowerZeroIsNotMeant(t *testing.T) {
	visit(t, lawful(), func(name string, m *monoid.Monoid) {
		for i := range m.Len() {
			if is := must[int](t)(idem.Omega(m, i)) == 0; is != (circleOf(t, m, i).index == 0) {
				t.Fatalf("%s: of %d Omega is 0: %v", name, i, is)
			}
		}
	})
}

// TestP16_1P16_2P16_3P16_4Powers: a^504 is the one idempotent beside the identity; those from a^8 on are a group.
func TestP16_1P16_2P16_3P16_4Powers(t *testing.T) {
	m := built(t, powers(8))
	listed(t, "List", must[[]int](t)(idem.List(m)), 0, 504)
	exponent(t, m, 504)
	cycles(t, m, 1, circle{8, 504}, 504)
	cycles(t, m, 2, circle{4, 252}, 504)
	cycles(t, m, 5, circle{2, 504}, 504)
	cycles(t, m, 7, circle{2, 72}, 504)
	cycles(t, m, 8, circle{1, 63}, 504)
	cycles(t, m, 504, circle{1, 1}, 504)
	cycles(t, m, 511, circle{1, 72}, 504)
	for i := range 512 {
		is := must[bool](t)(idem.Regular(m, i))
		l := must[[]int](t)(idem.Inverses(m, i))
		switch {
		case is != (i == 0 || i >= 8):
			t.Errorf("Regular(%d) is %v", i, is)
		case i == 0:
			listed(t, "Inverses(0)", l, 0)
		case !is:
			listed(t, "Inverses", l)
		case len(l) != 1 || l[0] < 8 || (i+l[0])%504 != 0:
			t.Errorf("Inverses(%d) is %v", i, l)
		}
	}
	listed(t, "Between(504)", must[[]int](t)(idem.Between(m, 504)), numbers(512)[8:]...)
	if !must[bool](t)(idem.Below(m, 504, 0)) || must[bool](t)(idem.Below(m, 0, 504)) {
		t.Error("the identity is not above a^504")
	}
}

// TestP16_2LateCircles: the circle begins at the last power that is left.
func TestP16_2LateCircles(t *testing.T) {
	m := built(t, beside(1, part{0, 63, 1}))
	cycles(t, m, 1, circle{63, 1}, 63)
	exponent(t, m, 63)
	listed(t, "List", must[[]int](t)(idem.List(m)), 0, 63)
	for i := range 64 {
		if is := must[bool](t)(idem.Regular(m, i)); is != (i == 0 || i == 63) {
			t.Errorf("Regular(%d) is %v", i, is)
		}
	}
}

// TestP16_2ExponentOfManyRings: it may be far greater than any power that stands in a table.
func TestP16_2ExponentOfManyRings(t *testing.T) {
	for _, c := range []struct {
		a        api.Auto
		exponent int
	}{
		{lonely(3, 4, 5, 7, 11, 13, 17), 1021020},
		{lonely(3, 5, 7, 11, 13, 16), 240240},
		{lonely(2, 4, 6, 9), 36},
		{lonely(1, 1, 1), 1},
		{beside(2, part{0, 9, 2}, part{1, 1, 3}), 12},
		{beside(2, part{0, 6, 2}, part{1, 1, 3}), 6},
		{beside(2, part{0, 7, 2}, part{1, 1, 3}), 12},
		{allMaps(2), 2},
		{allMaps(3), 6},
		{allMaps(4), 12},
	} {
		exponent(t, built(t, c.a), c.exponent)
	}
}

// TestP16_1P16_2P16_3P16_4MostElementsWithAZero: seven letters are their own squares, the last one's fourth power is its third; all commute.
func TestP16_1P16_2P16_3P16_4MostElementsWithAZero(t *testing.T) {
	m := built(t, beside(8, part{0, 1, 1}, part{1, 1, 1}, part{2, 1, 1}, part{3, 1, 1}, part{4, 1, 1}, part{5, 1, 1}, part{6, 1, 1}, part{7, 3, 1}))
	zero, is := m.Zero()
	if !is || m.Len() != 512 {
		t.Fatalf("%d elements", m.Len())
	}
	exponent(t, m, 3)
	if l := must[[]int](t)(idem.List(m)); len(l) != 256 || l[0] != 0 || l[255] != zero {
		t.Errorf("List has %d elements", len(l))
	}
	listed(t, "Between the zero", must[[]int](t)(idem.Between(m, zero)), zero)
	for i := range 512 {
		w := must[string](t)(m.Word(i))
		last := strings.Count(w, "h")
		regular := last == 0 || last == 3
		if must[bool](t)(idem.Idempotent(m, i)) != regular || must[bool](t)(idem.Regular(m, i)) != regular {
			t.Fatalf("%q: regular should be %v", w, regular)
		}
		index := []int{1, 3, 2, 1}[last]
		if i == 0 {
			index = 0
		}
		if got := circleOf(t, m, i); got != (circle{index, 1}) {
			t.Fatalf("Cycle of %q is %v", w, got)
		}
		if !regular {
			continue
		}
		listed(t, "Inverses of "+w, must[[]int](t)(idem.Inverses(m, i)), i)
		if !must[bool](t)(idem.Below(m, zero, i)) || must[bool](t)(idem.Below(m, i, zero)) != (i == zero) {
			t.Fatalf("the zero is not below %q", w)
		}
	}
}

// TestP16_3P16_4OneSided: where products tell the first letter alone, e f is e, and f e is not: neither is below the other. Each letter is an inverse of each.
func TestP16_3P16_4OneSided(t *testing.T) {
	for _, a := range []api.Auto{firstLetter(8), lastLetter(8, 8)} {
		m := built(t, a)
		letters := numbers(9)[1:]
		listed(t, "List", must[[]int](t)(idem.List(m)), numbers(9)...)
		exponent(t, m, 1)
		for _, e := range letters {
			listed(t, "Inverses", must[[]int](t)(idem.Inverses(m, e)), letters...)
			listed(t, "Between", must[[]int](t)(idem.Between(m, e)), e)
			for f := range 9 {
				if is := must[bool](t)(idem.Below(m, e, f)); is != (f == e || f == 0) {
					t.Errorf("Below(%d, %d) is %v", e, f, is)
				}
			}
		}
		listed(t, "Inverses(0)", must[[]int](t)(idem.Inverses(m, 0)), 0)
	}
}

// TestP16_3ABackwardWayIsNoInverse: Inverses asks for j i j = j, too: a zero of both sides, i, has i j i = i with each j, and itself as its one inverse.
func TestP16_3ABackwardWayIsNoInverse(t *testing.T) {
	zeros := 0
	visit(t, lawful(), func(name string, m *monoid.Monoid) {
		if zero, is := m.Zero(); is {
			zeros++
			listed(t, name+": Inverses of the zero", must[[]int](t)(idem.Inverses(m, zero)), zero)
		}
	})
	if zeros < 100 {
		t.Errorf("%d monoids have a zero", zeros)
	}
}

// TestP16_3NotRegular: of one word alone no piece is regular, but the empty one and what sinks.
func TestP16_3NotRegular(t *testing.T) {
	m := built(t, ending(2, 20))
	zero, _ := m.Zero()
	for i := range m.Len() {
		should := i == 0 || i == zero
		if is := must[bool](t)(idem.Regular(m, i)); is != should {
			t.Errorf("Regular(%d) is %v", i, is)
		}
		if l := must[[]int](t)(idem.Inverses(m, i)); len(l) > 0 != should {
			t.Errorf("Inverses(%d) is %v", i, l)
		}
	}
}

// TestP16_3AllMaps: a map of points is always regular; with so many images of so many points it has as many inverses as there are choices.
func TestP16_3AllMaps(t *testing.T) {
	m := built(t, allMaps(3))
	many := map[int]int{}
	for i := range m.Len() {
		if !must[bool](t)(idem.Regular(m, i)) {
			t.Errorf("Regular(%d) is false", i)
		}
		many[len(must[[]int](t)(idem.Inverses(m, i)))]++
	}
	// 6 permutations have one; 18 maps have two images, one from two points: two choices of what leads back, and two of where the third point goes; 3 have one image: any of the three maps alike leads back.
	if len(many) != 3 || many[1] != 6 || many[4] != 18 || many[3] != 3 {
		t.Errorf("so many elements have so many inverses: %v", many)
	}
	if l := must[[]int](t)(idem.List(m)); len(l) != 10 {
		t.Errorf("List of all maps of 3 is %v", l)
	}
	if l := must[[]int](t)(idem.List(built(t, allMaps(4)))); len(l) != 41 {
		t.Errorf("List of all maps of 4 is %v", l)
	}
}

// TestP16_4MonoidAtAnIdempotent: of all maps, those at an idempotent of two images are all maps of two.
func TestP16_4MonoidAtAnIdempotent(t *testing.T) {
	m := built(t, allMaps(4))
	sizes := map[int]int{}
	for _, e := range must[[]int](t)(idem.List(m)) {
		sizes[len(must[[]int](t)(idem.Between(m, e)))]++
	}
	// Of four images one idempotent, of three 12, of two 24, of one 4.
	if len(sizes) != 4 || sizes[256] != 1 || sizes[27] != 12 || sizes[4] != 24 || sizes[1] != 4 {
		t.Errorf("so many idempotents have monoids of so many elements: %v", sizes)
	}
}
