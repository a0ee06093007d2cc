package green_test

import (
	"math"
	"testing"

	"eggbox/api"
	"eggbox/green"
	"eggbox/monoid"
)

// answers are what all calls answer of a kind, two elements and a class's number.
type answers struct {
	count, class, height int
	members              []int
	below                bool
	box                  api.Box
	errors               [6]api.Errno // of Count, Class, Members, Below, Box, Height
}

func everyAnswer(g *green.Green, kind, i, j, c int) answers {
	var out answers
	out.count, out.errors[0] = g.Count(kind)
	out.class, out.errors[1] = g.Class(kind, i)
	out.members, out.errors[2] = g.Members(kind, c)
	out.below, out.errors[3] = g.Below(kind, i, j)
	out.box, out.errors[4] = g.Box(c)
	out.height, out.errors[5] = g.Height(kind)
	return out
}

// nothingBesideErrors: is zero what stands beside an error?
func (a answers) nothingBesideErrors() bool {
	fine := func(at int, zero bool) bool { return a.errors[at] == api.OK || zero }
	return fine(0, a.count == 0) && fine(1, a.class == 0) && fine(2, len(a.members) == 0) && fine(3, !a.below) && fine(4, isZeroBox(a.box)) && fine(5, a.height == 0)
}

// shouldBe are the errors of all calls by the chapter, in its order, of a monoid with n elements, so many classes of the kind, and so many D classes.
func shouldBe(n, classes, boxes, kind, i, j, c int) [6]api.Errno {
	none := func(x, n int) bool { return x < 0 || x >= n }
	var out [6]api.Errno
	if none(i, n) {
		out[1], out[3] = api.ErrRange, api.ErrRange
	}
	if none(j, n) {
		out[3] = api.ErrRange
	}
	if none(c, classes) {
		out[2] = api.ErrRange
	}
	if kind < 1 || kind > 5 {
		for _, at := range []int{0, 1, 2, 3, 5} {
			out[at] = api.ErrArg
		}
	}
	if none(c, boxes) {
		out[4] = api.ErrRange
	}
	return out
}

// holdsErrors asks all calls, and holds their errors.
func holdsErrors(t *testing.T, name string, g *green.Green, n, kind, i, j, c int) [6]api.Errno {
	t.Helper()
	classes, _ := g.Count(kind)
	boxes, _ := g.Count(api.D)
	got := everyAnswer(g, kind, i, j, c)
	if got.errors != shouldBe(n, classes, boxes, kind, i, j, c) || !got.nothingBesideErrors() {
		t.Fatalf("%s: kind %d, elements %d, %d, class %d: %+v", name, kind, i, j, c, got)
	}
	return got.errors
}

// TestP1502NoKind: alone, and with what is no element and no class, which is told later.
func TestP1502NoKind(t *testing.T) {
	for _, s := range samples() {
		m := built(t, s.a)
		g := made(t, m)
		for _, kind := range noKinds() {
			for _, x := range append(outside(m.Len()), 0, m.Len()-1) {
				for _, p := range [][3]int{{0, 0, 0}, {x, 0, 0}, {0, x, 0}, {0, 0, x}, {x, x, x}} {
					errors := holdsErrors(t, s.name, g, m.Len(), kind, p[0], p[1], p[2])
					for _, at := range []int{0, 1, 2, 3, 5} {
						if errors[at] != api.ErrArg {
							t.Fatalf("%s: kind %d, %v: %v", s.name, kind, p, errors)
						}
					}
				}
			}
		}
		for _, kind := range kinds {
			if errors := holdsErrors(t, s.name, g, m.Len(), kind, 0, 0, 0); errors != ([6]api.Errno{}) {
				t.Fatalf("%s: kind %d: %v", s.name, kind, errors)
			}
		}
	}
}

// TestP1502NoElement: below 0, at how many there are and far past it, as the first one, the second one and both.
func TestP1502NoElement(t *testing.T) {
	for _, s := range samples() {
		m := built(t, s.a)
		g := made(t, m)
		for _, kind := range kinds {
			for _, none := range outside(m.Len()) {
				if c, e := g.Class(kind, none); c != 0 || e != api.ErrRange {
					t.Fatalf("%s: Class(%d, %d) is %d, %d", s.name, kind, none, c, e)
				}
				for _, p := range [][2]int{{none, 0}, {0, none}, {none, none}, {none, m.Len() - 1}, {m.Len() - 1, none}} {
					if is, e := g.Below(kind, p[0], p[1]); is || e != api.ErrRange {
						t.Fatalf("%s: Below(%d, %v) is %v, %d", s.name, kind, p, is, e)
					}
					holdsErrors(t, s.name, g, m.Len(), kind, p[0], p[1], 0)
				}
			}
			holdsErrors(t, s.name, g, m.Len(), kind, m.Len()-1, m.Len()-1, 0)
		}
	}
}

// TestP1502P1503NoClass: below 0, at how many there are and far past it; the last one is one.
func TestP1502P1503NoClass(t *testing.T) {
	for _, s := range samples() {
		m := built(t, s.a)
		g := made(t, m)
		for _, kind := range kinds {
			n := must[int](t)(g.Count(kind))
			for _, none := range outside(n) {
				if l, e := g.Members(kind, none); len(l) != 0 || e != api.ErrRange {
					t.Fatalf("%s: Members(%d, %d) is %v, %d", s.name, kind, none, l, e)
				}
				holdsErrors(t, s.name, g, m.Len(), kind, 0, 0, none)
			}
			if l, e := g.Members(kind, n-1); len(l) == 0 || e != api.OK {
				t.Fatalf("%s: Members(%d, %d) is %v, %d", s.name, kind, n-1, l, e)
			}
		}
		n := must[int](t)(g.Count(api.D))
		for _, none := range outside(n) {
			if b, e := g.Box(none); !isZeroBox(b) || e != api.ErrRange {
				t.Fatalf("%s: Box(%d) is %v, %d", s.name, none, b, e)
			}
		}
		if b, e := g.Box(n - 1); isZeroBox(b) || e != api.OK {
			t.Fatalf("%s: Box(%d) is %v, %d", s.name, n-1, b, e)
		}
	}
}

// areNone holds relations to the answers of such as are none: this error comes ahead of all others.
func areNone(t *testing.T, g *green.Green) {
	t.Helper()
	for _, kind := range append(noKinds(), kinds[:]...) {
		for _, x := range []int{0, 1, -1, 5, 512, math.MinInt, math.MaxInt} {
			got := everyAnswer(g, kind, x, -x, x)
			for _, e := range got.errors {
				if e != api.ErrArg || !got.nothingBesideErrors() {
					t.Fatalf("no relations: %d, %d: %+v", kind, x, got)
				}
			}
		}
	}
}

func TestP1501NoRelations(t *testing.T) {
	areNone(t, nil)
	areNone(t, &green.Green{})
	areNone(t, new(green.Green))
	var zero green.Green
	areNone(t, &zero)
}

// TestP1501ACopyIsNone: Make did not make it, and the relations stay what they are.
func TestP1501ACopyIsNone(t *testing.T) {
	g := made(t, built(t, pairs()))
	before := portrait(g)
	other := *g
	areNone(t, &other)
	if portrait(g) != before {
		t.Error("a copy was made, and the relations have other answers")
	}
}

func TestP1501NoMonoid(t *testing.T) {
	var zero monoid.Monoid
	m := built(t, pairs())
	other := *m
	for _, none := range []*monoid.Monoid{nil, {}, new(monoid.Monoid), &zero, &other} {
		if g, e := green.Make(none); g != nil || e != api.ErrArg {
			t.Errorf("Make of no monoid: %v, %d", g != nil, e)
		}
	}
	if refused, e := monoid.Build(turns(6)); e != api.ErrElems {
		t.Errorf("Build of 720 elements: %d", e)
	} else if g, e := green.Make(refused); g != nil || e != api.ErrArg {
		t.Errorf("Make of a monoid that was refused: %v, %d", g != nil, e)
	}
	made(t, m)
}

// TestP1EveryInputEndsWithoutPanic: any kinds and numbers; each call answers its error alone, in their order.
func TestP1EveryInputEndsWithoutPanic(t *testing.T) {
	d := dice(7)
	met := map[api.Errno]int{}
	all := samples()
	var sizes []int
	var relations []*green.Green
	for _, s := range all {
		m := built(t, s.a)
		sizes = append(sizes, m.Len())
		relations = append(relations, made(t, m))
	}
	for range 30000 {
		at := d.below(len(all))
		n := sizes[at]
		numbers := [4]int{d.below(8) - 1, d.below(n+3) - 1, d.below(n+3) - 1, d.below(n+3) - 1}
		if d.below(10) == 0 {
			numbers[d.below(4)] = int(d.roll()) >> d.below(64)
		}
		for _, e := range holdsErrors(t, all[at].name, relations[at], n, numbers[0], numbers[1], numbers[2], numbers[3]) {
			met[e]++
		}
	}
	for _, e := range []api.Errno{api.OK, api.ErrArg, api.ErrRange} {
		if met[e] < 3000 {
			t.Errorf("of the calls %v", met)
		}
	}
}
