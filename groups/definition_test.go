package groups_test

import (
	"fmt"
	"slices"
	"testing"

	"eggbox/api"
	"eggbox/green"
	"eggbox/groups"
	"eggbox/idem"
	"eggbox/monoid"
)

// facts are what the calls answer of a group.
type facts struct {
	order, exponent          int
	members, center, derived []int
	inverses, periods        []int // of the members
	abelian, cyclic          bool
	profile                  []api.Times
	steps                    int
	solvable                 bool
}

// unlike names the first fact of the two that isn't the same, with both; "" if there is none.
func unlike(f, other facts) string {
	for _, x := range []struct {
		name     string
		one, two any
	}{
		{"Order", f.order, other.order},
		{"Members", f.members, other.members},
		{"Inverse", f.inverses, other.inverses},
		{"Period", f.periods, other.periods},
		{"Exponent", f.exponent, other.exponent},
		{"Abelian", f.abelian, other.abelian},
		{"Cyclic", f.cyclic, other.cyclic},
		{"Profile", f.profile, other.profile},
		{"Center", f.center, other.center},
		{"Derived", f.derived, other.derived},
		{"Solvable: steps", f.steps, other.steps},
		{"Solvable", f.solvable, other.solvable},
	} {
		if one, two := fmt.Sprint(x.one), fmt.Sprint(x.two); one != two {
			return fmt.Sprintf("%s is %.300s; should be %.300s", x.name, one, two)
		}
	}
	return ""
}

// answered are a group's by its calls.
func answered(t *testing.T, g *groups.Group) facts {
	t.Helper()
	out := facts{order: g.Order(), exponent: g.Exponent(), members: g.Members(), center: g.Center(), derived: g.Derived(), abelian: g.Abelian(), cyclic: g.Cyclic(), profile: g.Profile()}
	for _, i := range out.members {
		out.inverses = append(out.inverses, must[int](t)(g.Inverse(i)))
		out.periods = append(out.periods, must[int](t)(g.Period(i)))
	}
	out.steps, out.solvable = g.Solvable()
	return out
}

// products are all of a monoid's.
type products [][]int

func productsOf(t *testing.T, m *monoid.Monoid) products {
	t.Helper()
	out := make(products, m.Len())
	for i := range out {
		for j := range out {
			out[i] = append(out[i], must[int](t)(m.Product(i, j)))
		}
	}
	return out
}

// of is the product of elements, the first one with the second one, that with the third one.
func (p products) of(first int, more ...int) int {
	for _, i := range more {
		first = p[first][i]
	}
	return first
}

// idempotents are all of them.
func (p products) idempotents() []int {
	return slices.DeleteFunc(numbers(len(p)), func(i int) bool { return p[i][i] != i })
}

// behind: is i the product of j and some element? ahead: that of some element and j?
func (p products) behind(i, j int) bool { return slices.Contains(p[j], i) }

func (p products) ahead(i, j int) bool {
	return slices.ContainsFunc(p, func(row []int) bool { return row[j] == i })
}

// class are the elements of an element's H class.
func (p products) class(e int) []int {
	return slices.DeleteFunc(numbers(len(p)), func(i int) bool {
		return !(p.behind(i, e) && p.behind(e, i) && p.ahead(i, e) && p.ahead(e, i))
	})
}

// inverse is the one member whose product with i is e; -1, if there is not just one.
func (p products) inverse(members []int, e, i int) int {
	found := slices.DeleteFunc(slices.Clone(members), func(j int) bool { return p[i][j] != e })
	if len(found) != 1 {
		return -1
	}
	return found[0]
}

// powers are those from the first one on until e; none, if e isn't met.
func (p products) powers(e, i int) []int {
	out := []int{i}
	for out[len(out)-1] != e {
		if len(out) > len(p) {
			return nil
		}
		out = append(out, p[out[len(out)-1]][i])
	}
	return out
}

// exponent goes through the powers of all members at once.
func (p products) exponent(members []int, e int) int {
	now := slices.Clone(members)
	n := 1
	for slices.ContainsFunc(now, func(x int) bool { return x != e }) {
		for at, i := range members {
			now[at] = p[now[at]][i]
		}
		n++
	}
	return n
}

// commuting are the members that commute with all.
func (p products) commuting(members []int) []int {
	return slices.DeleteFunc(slices.Clone(members), func(i int) bool {
		return slices.ContainsFunc(members, func(j int) bool { return p[i][j] != p[j][i] })
	})
}

// derived puts products of two beside all products i j i' j' until there is no new one.
func (p products) derived(members []int, e int) []int {
	is := make([]bool, len(p))
	inverses := make([]int, len(p))
	for _, i := range members {
		inverses[i] = p.inverse(members, e, i)
	}
	for _, i := range members {
		for _, j := range members {
			is[p.of(i, j, inverses[i], inverses[j])] = true
		}
	}
	for {
		found := slices.DeleteFunc(numbers(len(p)), func(i int) bool { return !is[i] })
		for _, i := range found {
			for _, j := range found {
				is[p[i][j]] = true
			}
		}
		if !slices.ContainsFunc(numbers(len(p)), func(i int) bool { return is[i] && !slices.Contains(found, i) }) {
			return found
		}
	}
}

// solvable makes derived groups until there is one that is met again.
func (p products) solvable(members []int, e int) (steps int, ok bool) {
	for n := 0; ; n++ {
		if len(members) == 1 {
			return n, true
		}
		next := p.derived(members, e)
		if slices.Equal(next, members) {
			return 0, false
		}
		members = next
	}
}

// profile counts, for each number from 1 on, the members that have it as period.
func profile(periods []int) []api.Times {
	var out []api.Times
	for n := 1; n <= slices.Max(periods); n++ {
		count := 0
		for _, period := range periods {
			if period == n {
				count++
			}
		}
		if count > 0 {
			out = append(out, api.Times{Order: n, Count: count})
		}
	}
	return out
}

// defined are the facts of the group at an idempotent, by the chapter's words.
func (p products) defined(e int) facts {
	members := p.class(e)
	out := facts{order: len(members), exponent: p.exponent(members, e), members: members, center: p.commuting(members), derived: p.derived(members, e)}
	for _, i := range members {
		powers := p.powers(e, i)
		out.inverses = append(out.inverses, p.inverse(members, e, i))
		out.periods = append(out.periods, len(powers))
		slices.Sort(powers)
		out.cyclic = out.cyclic || slices.Equal(powers, members)
	}
	out.abelian = len(out.center) == len(members)
	out.profile = profile(out.periods)
	out.steps, out.solvable = p.solvable(members, e)
	return out
}

// isAsDefined holds all calls of a monoid.
func isAsDefined(t *testing.T, name string, m *monoid.Monoid) {
	t.Helper()
	p := productsOf(t, m)
	var orders []int
	for _, e := range p.idempotents() {
		should := p.defined(e)
		orders = append(orders, should.order)
		g := at(t, m, e)
		if wrong := unlike(answered(t, g), should); wrong != "" {
			t.Fatalf("%s: at %d: %s", name, e, wrong)
		}
		for i := range p {
			is := slices.Contains(should.members, i)
			if g.Has(i) != is {
				t.Fatalf("%s: at %d: Has(%d) is %v", name, e, i, !is)
			}
			if !is {
				isNoMember(t, name, g, i)
			}
		}
	}
	if got, e := groups.Orders(m); !slices.Equal(got, orders) || e != api.OK {
		t.Fatalf("%s: Orders is %v, %d; should be %v", name, got, e, orders)
	}
	for i := range p {
		if g, e := groups.Of(m, i); p[i][i] != i && (g != nil || e != api.ErrIdem) {
			t.Fatalf("%s: Of(%d): %v, %d", name, i, g != nil, e)
		}
	}
}

func TestP1702P1703P1704ByDefinitionOfSmallOnes(t *testing.T) {
	visit(t, smallOnes(), func(name string, m *monoid.Monoid) { isAsDefined(t, name, m) })
}

func TestP1702P1703P1704ByDefinitionOfSamples(t *testing.T) {
	visit(t, slices.Concat(samples(), thrown(150)), func(name string, m *monoid.Monoid) { isAsDefined(t, name, m) })
}

// TestP1702HClasses: the members are those that chapter 15 tells.
func TestP1702HClasses(t *testing.T) {
	visit(t, lawful(), func(name string, m *monoid.Monoid) {
		h := must[*green.Green](t)(green.Make(m))
		var orders []int
		for _, e := range must[[]int](t)(idem.List(m)) {
			class := must[[]int](t)(h.Members(api.H, must[int](t)(h.Class(api.H, e))))
			orders = append(orders, len(class))
			if got := at(t, m, e).Members(); !slices.Equal(got, class) {
				t.Fatalf("%s: Members at %d are %v; should be %v", name, e, got, class)
			}
		}
		if got := must[[]int](t)(groups.Orders(m)); !slices.Equal(got, orders) {
			t.Fatalf("%s: Orders is %v; should be %v", name, got, orders)
		}
	})
}
