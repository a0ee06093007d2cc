package holds_test

import (
	"slices"
	"testing"

	"eggbox/api"
	"eggbox/monoid"
)

// model is a monoid as its words tell it: products and omegas of elements, and what is at most what.
type model struct {
	n       int
	product [][]int
	omega   []int
	atMost  [][]bool
}

// modelOf asks for nothing but words, their elements, and what is accepted.
func modelOf(t *testing.T, m *monoid.Monoid) model {
	t.Helper()
	out := model{n: m.Len()}
	var words []string
	for i := range out.n {
		words = append(words, must[string](t)(m.Word(i)))
	}
	for i := range out.n {
		var row []int
		for j := range out.n {
			row = append(row, must[int](t)(m.Element(words[i]+words[j])))
		}
		out.product = append(out.product, row)
	}
	for i := range out.n {
		power := i
		for out.product[power][power] != power {
			power = out.product[power][i]
		}
		out.omega = append(out.omega, power)
	}
	out.compare(t, m)
	return out
}

// compare says what is at most what, by all contexts.
func (m *model) compare(t *testing.T, of *monoid.Monoid) {
	t.Helper()
	var accepted []bool
	for i := range m.n {
		accepted = append(accepted, must[bool](t)(of.Accept(i)))
	}
	// Which of the contexts let an element in, as bits.
	lets := make([][]uint64, m.n)
	for i := range m.n {
		lets[i] = make([]uint64, (m.n*m.n+63)/64)
		for u := range m.n {
			ahead := m.product[u][i]
			for v := range m.n {
				if at := u*m.n + v; accepted[m.product[ahead][v]] {
					lets[i][at/64] |= 1 << (at % 64)
				}
			}
		}
	}
	for i := range m.n {
		var row []bool
		for j := range m.n {
			is := true
			for at, some := range lets[i] {
				is = is && some&^lets[j][at] == 0
			}
			row = append(row, is)
		}
		m.atMost = append(m.atMost, row)
	}
}

// value is the element that a side is.
func (m model) value(side []api.Sign, names string, values []int) int {
	var parts []int
	for _, s := range side {
		at := len(parts) - 1
		switch s.Kind {
		case api.One:
			parts = append(parts, 0)
		case api.Var:
			parts = append(parts, values[slices.Index([]byte(names), s.Name)])
		case api.Mul:
			parts = append(parts[:at-1], m.product[parts[at-1]][parts[at]])
		case api.Omega:
			parts[at] = m.omega[parts[at]]
		}
	}
	return parts[0]
}

func (m model) fails(id api.Identity, values []int) bool {
	names := variablesOf(id)
	left, right := m.value(id.Left, names, values), m.value(id.Right, names, values)
	if id.Less {
		return !m.atMost[left][right]
	}
	return left != right
}

// assignments are all of so many variables out of a list, ordered by their first element, then by the second one, and so on: elements are ordered by the places at which they stand first.
func assignments(list []int, variables int) [][]int {
	var once []int
	for _, i := range list {
		if !slices.Contains(once, i) {
			once = append(once, i)
		}
	}
	out := [][]int{nil}
	for range variables {
		var more [][]int
		for _, a := range out {
			for _, i := range once {
				more = append(more, append(slices.Clone(a), i))
			}
		}
		out = more
	}
	return out
}

// verdict is whether an identity fails nowhere among them, and the first place where it does, and how often it fails.
func (m model) verdict(id api.Identity, all [][]int) (verdict, int) {
	out, times := verdict{is: true}, 0
	for _, values := range all {
		if m.fails(id, values) {
			if times == 0 {
				out = verdict{false, values}
			}
			times++
		}
	}
	return out, times
}

// tally is of which kinds the answers were that were held against the definition.
type tally struct{ holds, fails, less, places int }

func (a *tally) add(id api.Identity, v verdict) {
	if v.is {
		a.holds++
		return
	}
	a.fails++
	if id.Less {
		a.less++
	}
	if slices.Max(append(v.values, 0)) > 2 {
		a.places++
	}
}

// check says that there were answers of each kind.
func (a *tally) check(t *testing.T, least int) {
	t.Helper()
	if min(a.holds, a.fails, a.less, a.places) < least {
		t.Errorf("only %+v", *a)
	}
}

func TestP20_1ByDefinition(t *testing.T) {
	some := identities(t, 60, 9, 4)
	var met tally
	visit(t, smallOnes(), func(name string, m *monoid.Monoid) {
		model := modelOf(t, m)
		for at, id := range some {
			all := assignments(numbers(m.Len()), len(variablesOf(id)))
			step := 1 + len(all)/60
			for i := at % step; i < len(all); i += step {
				is, should := fails(t, m, id, all[i]), model.fails(id, all[i])
				if is != should {
					t.Fatalf("%s: Fails(%s, %v) is %v", name, show(id), all[i], is)
				}
				met.add(id, verdict{!should, all[i]})
			}
		}
	})
	met.check(t, 5000)
}

func TestP20_2P20_4ByDefinition(t *testing.T) {
	some := identities(t, 150, 12, 4)
	var met tally
	visit(t, smallOnes(), func(name string, m *monoid.Monoid) {
		model := modelOf(t, m)
		for _, id := range some {
			names := variablesOf(id)
			if len(names) == 4 && m.Len() > 8 {
				continue
			}
			should, times := model.verdict(id, assignments(numbers(m.Len()), len(names)))
			if got := all(t, m, id); !got.same(should) {
				t.Fatalf("%s: Holds(%s) is %v; should be %v", name, show(id), got, should)
			}
			if n := count(t, m, id); n != times {
				t.Fatalf("%s: Count(%s) is %d; should be %d", name, show(id), n, times)
			}
			met.add(id, should)
		}
	})
	met.check(t, 300)
}

func TestP20_3ByDefinition(t *testing.T) {
	some := identities(t, 100, 12, 4)
	var met tally
	d := dice(203)
	visit(t, smallOnes(), func(name string, m *monoid.Monoid) {
		model := modelOf(t, m)
		for _, id := range some {
			for range 3 {
				list := d.from(m.Len(), d.below(8))
				should, _ := model.verdict(id, assignments(list, len(variablesOf(id))))
				if got := in(t, m, id, list); !got.same(should) {
					t.Fatalf("%s: HoldsIn(%s, %v) is %v; should be %v", name, show(id), list, got, should)
				}
				met.add(id, should)
			}
		}
	})
	met.check(t, 500)
}

// TestP20_1P20_2P20_3P20_4GreatByDefinition: of many elements identities of at most two variables, and of more in lists.
func TestP20_1P20_2P20_3P20_4GreatByDefinition(t *testing.T) {
	two, four := identities(t, 20, 15, 2), identities(t, 30, 15, 4)
	var whole, listed tally
	d := dice(204)
	for _, s := range greatOnes() {
		if s.elems > 140 {
			continue
		}
		m := built(t, s.a)
		model := modelOf(t, m)
		every := [][][]int{assignments(numbers(m.Len()), 0), assignments(numbers(m.Len()), 1), assignments(numbers(m.Len()), 2)}
		for _, id := range two {
			should, times := model.verdict(id, every[len(variablesOf(id))])
			if got, n := all(t, m, id), count(t, m, id); !got.same(should) || n != times {
				t.Fatalf("%s: Holds(%s) is %v, Count %d; should be %v, %d", s.name, show(id), got, n, should, times)
			}
			whole.add(id, should)
		}
		for _, id := range four {
			list := d.from(m.Len(), 1+d.below(9))
			should, _ := model.verdict(id, assignments(list, len(variablesOf(id))))
			if got := in(t, m, id, list); !got.same(should) {
				t.Fatalf("%s: HoldsIn(%s, %v) is %v; should be %v", s.name, show(id), list, got, should)
			}
			if !should.is && !fails(t, m, id, should.values) {
				t.Fatalf("%s: Fails(%s, %v) is false", s.name, show(id), should.values)
			}
			listed.add(id, should)
		}
	}
	whole.check(t, 30)
	listed.check(t, 30)
}

// TestP20_2P20_3P20_4LongSides: of as many signs as may be, of all kinds.
func TestP20_2P20_3P20_4LongSides(t *testing.T) {
	d := dice(400)
	visit(t, smallMinimal()[:13], func(name string, m *monoid.Monoid) {
		model := modelOf(t, m)
		for i := range 12 {
			names := []string{"xy", "yt", "xzt", "x", "xyzt"}[i%5]
			id := api.Identity{Left: d.side(400, names), Right: d.side(400, names), Less: i%3 == 0}
			if m.Len() > 8 && len(names) > 2 {
				continue
			}
			should, times := model.verdict(id, assignments(numbers(m.Len()), len(variablesOf(id))))
			if got, n := all(t, m, id), count(t, m, id); !got.same(should) || n != times {
				t.Fatalf("%s: Holds(%s) is %v, Count %d; should be %v, %d", name, show(id), got, n, should, times)
			}
			list := d.from(m.Len(), 3)
			should, _ = model.verdict(id, assignments(list, len(variablesOf(id))))
			if got := in(t, m, id, list); !got.same(should) {
				t.Fatalf("%s: HoldsIn(%s, %v) is %v; should be %v", name, show(id), list, got, should)
			}
		}
	})
}
