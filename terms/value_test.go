package terms_test

import (
	"slices"
	"testing"

	"eggbox/api"
	"eggbox/idem"
	"eggbox/monoid"
	"eggbox/terms"
)

// places tells which variable's value stands where.
func placeOf(name byte) int { return map[byte]int{'x': 0, 'y': 1, 'z': 2, 't': 3}[name] }

// product is that of two elements, by their words.
func product(t *testing.T, m *monoid.Monoid, i, j int) int {
	t.Helper()
	return must[int](t)(m.Element(must[string](t)(m.Word(i)) + must[string](t)(m.Word(j))))
}

// value is the element that a side is, by the definition.
func (p plain) value(t *testing.T, m *monoid.Monoid, values []int) int {
	t.Helper()
	switch p.sign.Kind {
	case api.One:
		return must[int](t)(m.Element(""))
	case api.Var:
		return values[placeOf(p.sign.Name)]
	case api.Mul:
		return product(t, m, p.parts[0].value(t, m, values), p.parts[1].value(t, m, values))
	}
	part := p.parts[0].value(t, m, values)
	power := part
	for product(t, m, power, power) != power {
		power = product(t, m, power, part)
	}
	return power
}

// isValue holds that a side is that element.
func isValue(t *testing.T, m *monoid.Monoid, p plain, values []int, should int) {
	t.Helper()
	if i, e := terms.Value(m, p.list(), values); i != should || e != api.OK {
		t.Fatalf("of %d elements: Value of %s at %v: %d, %d; should be %d", m.Len(), p.text(), values, i, e, should)
	}
}

func TestP1906Examples(t *testing.T) {
	m := built(t, pairs())
	x, y, z, v := variable('x'), variable('y'), variable('z'), variable('t')
	isValue(t, m, one(), nil, 0)
	isValue(t, m, omega(one()), nil, 0)
	isValue(t, m, omega(omega(one())), nil, 0)
	// 0 "", 1 a, 2 b, 3 aa, 4 ab, 5 ba.
	for i, should := range []int{0, 3, 3, 3, 4, 5} {
		isValue(t, m, x, []int{i}, i)
		isValue(t, m, omega(x), []int{i}, should)
		isValue(t, m, omega(omega(x)), []int{i}, should)
		isValue(t, m, v, []int{-1, 6, 7, i}, i)
	}
	isValue(t, m, mul(x, y), []int{1, 2}, 4)
	isValue(t, m, mul(y, x), []int{1, 2}, 5)
	isValue(t, m, mul(omega(mul(x, y)), x), []int{1, 2}, 1)
	isValue(t, m, omega(mul(x, y)), []int{1, 2}, 4)
	isValue(t, m, mul(mul(x, y), z), []int{1, 2, 1}, 1)
	isValue(t, m, mul(x, mul(y, z)), []int{1, 2, 2}, 3)
	even := built(t, part{0, 2}.auto())
	isValue(t, even, omega(x), []int{1}, 0)
	isValue(t, even, mul(omega(x), x), []int{1}, 1)
	isValue(t, even, omega(mul(x, x)), []int{1}, 0)
}

// assignments are all values of four variables, or that many of them.
func assignments(m *monoid.Monoid, most int) [][]int {
	var out [][]int
	n := m.Len()
	if n*n*n*n <= most {
		for i := range n * n * n * n {
			out = append(out, []int{i % n, i / n % n, i / n / n % n, i / n / n / n})
		}
		return out
	}
	for d := dice(n + 1); len(out) < most; {
		out = append(out, []int{d.below(n), d.below(n), d.below(n), d.below(n)})
	}
	return out
}

func TestP1906ByDefinition(t *testing.T) {
	small := slices.Concat(everySide(4, leaves()...)...)
	visit(t, smallSamples(), func(name string, m *monoid.Monoid) {
		for _, values := range assignments(m, 40) {
			for _, p := range small {
				isValue(t, m, p, values, p.value(t, m, values))
			}
		}
	})
	d := dice(1906)
	unlike := map[int]bool{}
	visit(t, samples(), func(name string, m *monoid.Monoid) {
		for _, values := range assignments(m, 100) {
			p := d.side(1 + d.below(40))
			should := p.value(t, m, values)
			unlike[should] = true
			isValue(t, m, p, values, should)
		}
	})
	if len(unlike) < 50 {
		t.Errorf("%d values alone", len(unlike))
	}
	m := built(t, powers(8))
	for _, p := range []plain{row(200), omega(row(200)), omegas(variable('x'), 399)} {
		isValue(t, m, p, []int{1}, p.value(t, m, []int{1}))
	}
}

// TestP1906NotAsked: what stands at the places of variables that do not occur is not looked at, and need not be there.
func TestP1906NotAsked(t *testing.T) {
	visit(t, smallSamples(), func(name string, m *monoid.Monoid) {
		n := m.Len()
		for i, none := range outside(n) {
			values := []int{none, -i, 7 * n, none, none, -1, 512}
			for at, p := range leaves()[1:] {
				own := slices.Clone(values)
				own[at] = n - 1
				isValue(t, m, p, own, n-1)
				isValue(t, m, mul(one(), p), own[:at+1], n-1)
				isValue(t, m, one(), own[:at], 0)
			}
			isValue(t, m, omega(one()), values, 0)
		}
	})
}

func TestP1906NoPlaceNoElement(t *testing.T) {
	x, y, z, v := variable('x'), variable('y'), variable('z'), variable('t')
	visit(t, smallSamples(), func(name string, m *monoid.Monoid) {
		for at, p := range leaves()[1:] {
			all := []int{0, m.Len() - 1, 0, 0}
			for _, whole := range []plain{p, omega(p), mul(p, one()), mul(one(), omega(p)), mul(p, x), mul(x, p)} {
				for size := range at + 1 {
					unvalued(t, m, whole.list(), all[:size], api.ErrNone)
				}
				for _, none := range outside(m.Len()) {
					values := slices.Clone(all)
					values[at] = none
					unvalued(t, m, whole.list(), values, api.ErrRange)
				}
			}
			unvalued(t, m, p.list(), nil, api.ErrNone)
		}
		// That one has no place comes ahead of what another one is.
		for _, none := range outside(m.Len()) {
			unvalued(t, m, mul(x, y).list(), []int{none}, api.ErrNone)
			unvalued(t, m, mul(y, x).list(), []int{none}, api.ErrNone)
			unvalued(t, m, mul(v, mul(x, z)).list(), []int{none, none, none}, api.ErrNone)
			unvalued(t, m, mul(v, x).list(), []int{0, none, none, none}, api.ErrRange)
			unvalued(t, m, mul(v, x).list(), []int{none, 0, 0, 0}, api.ErrRange)
			unvalued(t, m, mul(v, x).list(), []int{none, 0, 0, none}, api.ErrRange)
		}
	})
}

// noSides are lists that are no sides, of at most MaxSigns signs.
func noSides() [][]api.Sign {
	x := api.Sign{Kind: api.Var, Name: 'x'}
	out := [][]api.Sign{nil, {}, {{Kind: api.Mul}}, {{Kind: api.Omega}}, {x, x}, {x, {Kind: api.Mul}}, {{Kind: api.Mul}, x, x}, {{Kind: api.Omega}, x}, {x, x, x, {Kind: api.Mul}}, {x, {Kind: api.Mul}, x}, make([]api.Sign, 400)}
	for _, s := range wrong() {
		out = append(out, []api.Sign{s}, []api.Sign{x, s}, []api.Sign{s, x, {Kind: api.Mul}}, []api.Sign{x, s, {Kind: api.Mul}})
	}
	return out
}

func TestP1906NoSide(t *testing.T) {
	more := omega(omega(row(200))).list()
	visit(t, smallSamples(), func(name string, m *monoid.Monoid) {
		for _, values := range [][]int{nil, {}, {0}, {0, 0, 0, 0}, {-1}, {m.Len()}, {-1, -1, -1, -1}} {
			for _, side := range noSides() {
				unvalued(t, m, side, values, api.ErrTerm)
			}
			unvalued(t, m, more, values, api.ErrSize)
			unvalued(t, m, make([]api.Sign, 401), values, api.ErrSize)
			unvalued(t, m, make([]api.Sign, 1<<20), values, api.ErrSize)
		}
	})
}

func TestP1906NoMonoid(t *testing.T) {
	var zero monoid.Monoid
	copied := *built(t, pairs())
	refused, _ := monoid.Build(turns(6))
	for _, m := range []*monoid.Monoid{nil, {}, new(monoid.Monoid), &zero, &copied, refused} {
		for _, values := range [][]int{nil, {0}, {0, 0, 0, 0}, {-1}, {512}} {
			for _, side := range append(noSides(), omega(omega(row(200))).list(), one().list(), variable('x').list(), row(20).list()) {
				unvalued(t, m, side, values, api.ErrArg)
			}
		}
	}
}

// TestP1909Morphism: the word that a side is, is of the element that it is, where omega is a multiple of each period and no less than each index.
func TestP1909Morphism(t *testing.T) {
	d := dice(1909)
	met, great := 0, 0
	visit(t, samples(), func(name string, m *monoid.Monoid) {
		exponent := must[int](t)(idem.Exponent(m))
		for range 400 {
			p := d.side(1 + d.below(12))
			var words []string
			var values []int
			for range 4 {
				words = append(words, d.word(m.Letters(), d.below(5)))
				values = append(values, must[int](t)(m.Element(words[len(words)-1])))
			}
			times := exponent * (1 + d.below(4))
			value := must[int](t)(terms.Value(m, p.list(), values))
			w, e := terms.Word(m.Letters(), p.list(), words, times)
			if e == api.ErrSize {
				continue
			}
			met++
			if len(w) > 200 {
				great++
			}
			if i := must[int](t)(m.Element(w)); e != api.OK || i != value {
				t.Fatalf("%s: %s at %q, omega %d: Value %d, Word of %d letters of the element %d, %d", name, p.text(), words, times, value, len(w), i, e)
			}
		}
	})
	if met < 3000 || great < 300 {
		t.Errorf("%d words were asked, %d long ones", met, great)
	}
}

// word is one over k letters of that many.
func (d *dice) word(k, size int) string {
	var out []byte
	for range size {
		out = append(out, 'a'+byte(d.below(k)))
	}
	return string(out)
}
