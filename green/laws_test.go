package green_test

import (
	"slices"
	"testing"

	"eggbox/api"
	"eggbox/green"
	"eggbox/monoid"
)

// asked is what the calls answer of all elements, and all products.
type asked struct {
	products
	classes [6][]int
	members [6][][]int
}

func askedOf(t *testing.T, m *monoid.Monoid, g *green.Green) *asked {
	t.Helper()
	out := &asked{products: productsOf(t, m)}
	for _, kind := range kinds {
		for i := range out.products {
			out.classes[kind] = append(out.classes[kind], must[int](t)(g.Class(kind, i)))
		}
		for c := range must[int](t)(g.Count(kind)) {
			out.members[kind] = append(out.members[kind], must[[]int](t)(g.Members(kind, c)))
		}
	}
	return out
}

// class has the elements that are in one class with i.
func (a *asked) class(kind, i int) []int { return a.members[kind][a.classes[kind][i]] }

func (a *asked) alike(kind, i, j int) bool { return a.classes[kind][i] == a.classes[kind][j] }

// lawful are monoids of all kinds and sizes.
func lawful(t *testing.T, look func(name string, a *asked, g *green.Green)) {
	t.Helper()
	visit(t, slices.Concat(samples(), thrown(80), smallOnes()), func(name string, m *monoid.Monoid, g *green.Green) {
		look(name, askedOf(t, m, g), g)
	})
}

func TestP1504DIsJ(t *testing.T) {
	lawful(t, func(name string, a *asked, g *green.Green) {
		if !slices.Equal(a.classes[api.D], a.classes[api.J]) || !slices.EqualFunc(a.members[api.D], a.members[api.J], slices.Equal) {
			t.Fatalf("%s: D classes %v, J classes %v", name, a.members[api.D], a.members[api.J])
		}
		if must[int](t)(g.Height(api.D)) != must[int](t)(g.Height(api.J)) {
			t.Fatalf("%s: the heights by D and J are unlike", name)
		}
		for i := range a.products {
			for j := range a.products {
				byD, e1 := g.Below(api.D, i, j)
				byJ, e2 := g.Below(api.J, i, j)
				if byD != byJ || e1 != api.OK || e2 != api.OK {
					t.Fatalf("%s: %d, %d: below by D and by J are unlike", name, i, j)
				}
			}
		}
	})
}

// leads: which elements are met from i by one kind, then by the other?
func (a *asked) leads(i, first, then int) []bool {
	out := make([]bool, len(a.products))
	for _, h := range a.class(first, i) {
		for _, j := range a.class(then, h) {
			out[j] = true
		}
	}
	return out
}

func TestP1504RAndLCommute(t *testing.T) {
	lawful(t, func(name string, a *asked, g *green.Green) {
		for i := range a.products {
			if there := a.leads(i, api.R, api.L); !slices.Equal(there, a.leads(i, api.L, api.R)) {
				t.Fatalf("%s: %d: R and L do not commute", name, i)
			} else {
				for j, is := range there {
					if is != a.alike(api.D, i, j) {
						t.Fatalf("%s: %d, %d: joined by R and L: %v, and of one D class: %v", name, i, j, is, !is)
					}
				}
			}
		}
	})
}

func TestP1504RowsMeetColumns(t *testing.T) {
	lawful(t, func(name string, a *asked, g *green.Green) {
		for _, members := range a.members[api.D] {
			for _, i := range members {
				// Of each row and each column one element is enough.
				if a.class(api.R, i)[0] != i {
					continue
				}
				for _, j := range members {
					if a.class(api.L, j)[0] != j {
						continue
					}
					var both []int
					for _, h := range a.class(api.R, i) {
						if a.alike(api.L, h, j) {
							both = append(both, h)
						}
					}
					if len(both) == 0 || !slices.Equal(both, a.class(api.H, both[0])) {
						t.Fatalf("%s: in the row of %d and the column of %d are %v", name, i, j, both)
					}
				}
			}
		}
	})
}

func TestP1505EachHClassIsAsGreat(t *testing.T) {
	lawful(t, func(name string, a *asked, g *green.Green) {
		for c, members := range a.members[api.D] {
			b := must[api.Box](t)(g.Box(c))
			for _, i := range members {
				if len(a.class(api.H, i)) != b.Each {
					t.Fatalf("%s: the H class of %d has %d elements; Box(%d) is %v", name, i, len(a.class(api.H, i)), c, b)
				}
			}
			if b.Rows*b.Cols*b.Each != len(members) {
				t.Fatalf("%s: Box(%d) is %v, and there are %d elements", name, c, b, len(members))
			}
		}
	})
}

// TestP1505GreensLemma: where i x is j, and some y leads back, x leads i's L class onto j's, one by one, within R classes.
func TestP1505GreensLemma(t *testing.T) {
	d := dice(1505)
	moved := 0
	lawful(t, func(name string, a *asked, g *green.Green) {
		for _, i := range d.someOf(len(a.products)) {
			for x, j := range a.products[i] {
				if !slices.Contains(a.products[j], i) {
					continue
				}
				var images []int
				for _, z := range a.class(api.L, i) {
					to := a.products[z][x]
					if !a.alike(api.R, z, to) {
						t.Fatalf("%s: %d %d leaves the R class of %d", name, z, x, z)
					}
					images = append(images, to)
				}
				slices.Sort(images)
				if !slices.Equal(images, a.class(api.L, j)) {
					t.Fatalf("%s: %d leads the L class of %d to %v", name, x, i, images)
				}
				if !a.alike(api.L, i, j) && len(images) > 1 {
					moved++
				}
			}
		}
	})
	if moved < 1000 {
		t.Errorf("%d L classes were led to others", moved)
	}
}

func TestP1506CliffordAndMiller(t *testing.T) {
	holds, fails := 0, 0
	lawful(t, func(name string, a *asked, g *green.Green) {
		n := len(a.products)
		// idempotent[l][r]: has the H class in the L class l and the R class r one?
		idempotent := make([][]bool, len(a.members[api.L]))
		for l := range idempotent {
			idempotent[l] = make([]bool, len(a.members[api.R]))
		}
		for e := range n {
			if a.products[e][e] == e {
				idempotent[a.classes[api.L][e]][a.classes[api.R][e]] = true
			}
		}
		for i := range n {
			for j := range n {
				p := a.products[i][j]
				stays := a.alike(api.R, p, i) && a.alike(api.L, p, j)
				if stays != idempotent[a.classes[api.L][i]][a.classes[api.R][j]] {
					t.Fatalf("%s: %d %d is %d: %v", name, i, j, p, stays)
				}
				if stays {
					holds++
				} else {
					fails++
				}
			}
		}
	})
	if holds < 10000 || fails < 10000 {
		t.Errorf("%d products stay, %d do not", holds, fails)
	}
}

func TestP1507HClassesWithAnIdempotent(t *testing.T) {
	great := 0
	lawful(t, func(name string, a *asked, g *green.Green) {
		for c, members := range a.members[api.H] {
			if !slices.ContainsFunc(members, func(e int) bool { return a.products[e][e] == e }) {
				continue
			}
			if len(members) > 1 {
				great++
			}
			for _, i := range members {
				for _, j := range members {
					if a.classes[api.H][a.products[i][j]] != c {
						t.Fatalf("%s: %d and %d are of the H class %d, their product is not", name, i, j, c)
					}
				}
			}
		}
	})
	if great < 100 {
		t.Errorf("%d H classes with an idempotent have several elements", great)
	}
}

func TestP1507Units(t *testing.T) {
	lawful(t, func(name string, a *asked, g *green.Green) {
		for i, row := range a.products {
			inverse := slices.Index(row, 0)
			isUnit := inverse >= 0 && a.products[inverse][i] == 0
			if isUnit != (a.classes[api.D][i] == 0) {
				t.Fatalf("%s: %d is of the D class %d; a unit: %v", name, i, a.classes[api.D][i], isUnit)
			}
		}
		if a.classes[api.D][0] != 0 {
			t.Fatalf("%s: the identity's D class is %d", name, a.classes[api.D][0])
		}
	})
}

func TestP1507BelowItsFactors(t *testing.T) {
	d := dice(1507)
	lawful(t, func(name string, a *asked, g *green.Green) {
		below := func(kind, i, j int) bool {
			is, e := g.Below(kind, i, j)
			return is && e == api.OK
		}
		for x, row := range a.products {
			for y, p := range row {
				if !below(api.R, p, x) || !below(api.L, p, y) || !below(api.J, p, x) || !below(api.J, p, y) || !below(api.D, p, x) || !below(api.D, p, y) {
					t.Fatalf("%s: %d %d is %d, which is not below its factors", name, x, y, p)
				}
				z := d.below(len(row))
				if whole := a.products[p][z]; !below(api.J, whole, y) || !below(api.D, whole, y) {
					t.Fatalf("%s: %d %d %d is not below the one in the middle", name, x, y, z)
				}
				// What is first and last is a factor from both sides.
				if whole := a.products[p][x]; !below(api.H, whole, x) {
					t.Fatalf("%s: %d %d %d is not below the one at both ends", name, x, y, x)
				}
			}
		}
	})
}

// TestP1502BelowIsAnOrderOfClasses: each is below itself, what is below what is below is below, and classes are of those below one another.
func TestP1502BelowIsAnOrderOfClasses(t *testing.T) {
	d := dice(1502)
	lawful(t, func(name string, a *asked, g *green.Green) {
		for _, kind := range kinds {
			below := func(i, j int) bool { return must[bool](t)(g.Below(kind, i, j)) }
			some := d.someOf(len(a.products))
			for _, i := range some {
				if !below(i, i) || !below(i, 0) {
					t.Fatalf("%s: %d is not below itself and the identity by %d", name, i, kind)
				}
				for _, j := range some {
					if (below(i, j) && below(j, i)) != a.alike(kind, i, j) {
						t.Fatalf("%s: %d, %d: of one class by %d: %v", name, i, j, kind, a.alike(kind, i, j))
					}
					for range 3 {
						if h := d.below(len(a.products)); below(i, j) && below(j, h) && !below(i, h) {
							t.Fatalf("%s: %d, %d, %d by %d: below is no order", name, i, j, h, kind)
						}
					}
				}
			}
		}
	})
}

// TestP1502Numbers: classes are numbered by their least elements, and part the elements.
func TestP1502Numbers(t *testing.T) {
	lawful(t, func(name string, a *asked, g *green.Green) {
		for _, kind := range kinds {
			last, all := -1, 0
			for c, members := range a.members[kind] {
				if len(members) == 0 || members[0] <= last || !slices.IsSorted(members) {
					t.Fatalf("%s: Members(%d, %d) is %v, behind %d", name, kind, c, members, last)
				}
				last = members[0]
				all += len(members)
				for _, i := range members {
					if a.classes[kind][i] != c {
						t.Fatalf("%s: %d is in Members(%d, %d), and its class is %d", name, i, kind, c, a.classes[kind][i])
					}
				}
			}
			if all != len(a.products) {
				t.Fatalf("%s: the classes by %d have %d elements", name, kind, all)
			}
		}
	})
}

// TestP1503RegularJustWithAnIdempotent: and then each row and each column has one.
func TestP1503RegularJustWithAnIdempotent(t *testing.T) {
	met := map[bool]int{}
	lawful(t, func(name string, a *asked, g *green.Green) {
		for c, members := range a.members[api.D] {
			regular := must[api.Box](t)(g.Box(c)).Regular
			met[regular]++
			isIdempotent := func(e int) bool { return a.products[e][e] == e }
			for _, i := range members {
				if slices.ContainsFunc(a.class(api.R, i), isIdempotent) != regular || slices.ContainsFunc(a.class(api.L, i), isIdempotent) != regular {
					t.Fatalf("%s: D class %d, regular: %v; %d's row and column do not say so", name, c, regular, i)
				}
			}
		}
	})
	if met[true] < 1000 || met[false] < 500 {
		t.Errorf("of D classes %v are regular", met)
	}
}
