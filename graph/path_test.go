package graph_test

import (
	"slices"
	"testing"

	"eggbox/api"
	"eggbox/graph"
)

// leads holds Path's answer: a way, or none, if should is empty.
func leads(t *testing.T, g [][]int, from, to int, should []int) {
	t.Helper()
	got, found, e := graph.Path(g, from, to)
	if e != api.OK || found != (len(should) > 0) || !slices.Equal(got, should) {
		t.Errorf("Path of %s, %d, %d is %s, %v, %d; should be %s", brief(g), from, to, shortList(got), found, e, shortList(should))
	}
}

// goesThrough holds Depth's answer.
func goesThrough(t *testing.T, g [][]int, should int) {
	t.Helper()
	if got, e := graph.Depth(g); e != api.OK || got != should {
		t.Errorf("Depth of %s is %d, %d; should be %d", brief(g), got, e, should)
	}
}

// turns holds Turn's answer.
func turns(t *testing.T, g, should [][]int) {
	t.Helper()
	if got, e := graph.Turn(g); e != api.OK || !same(got, should) {
		t.Errorf("Turn of %s is %s, %d; should be %s", brief(g), brief(got), e, brief(should))
	}
}

func TestP1104Examples(t *testing.T) {
	g := example()
	leads(t, g, 3, 2, []int{3, 0, 1, 2})
	leads(t, g, 2, 3, nil)
	goesThrough(t, g, 2)
	turns(t, g, [][]int{{1, 3}, {0}, {1, 2}, {}})
}

func TestP1104NoVertex(t *testing.T) {
	for _, g := range [][][]int{nil, {}} {
		goesThrough(t, g, 0)
		turns(t, g, nil)
	}
}

func TestP1104OneVertex(t *testing.T) {
	for _, g := range [][][]int{{nil}, {{}}, {{0}}, {{0, 0, 0}}} {
		goesThrough(t, g, 0)
		turns(t, g, g)
		leads(t, g, 0, 0, []int{0})
	}
}

// TestP1104WaysOfNoEdge: a vertex alone is a way of length 0 to itself, also where edges lead back to it.
func TestP1104WaysOfNoEdge(t *testing.T) {
	for _, g := range slices.Concat(small(), middling(), [][][]int{bare(512), circle(512)}) {
		for v := range g {
			leads(t, g, v, v, []int{v})
		}
	}
}

// TestP1104LeastOfShortest: of several shortest ways the one with the lesser vertex at the first place where they are unlike, whatever order the lists have.
func TestP1104LeastOfShortest(t *testing.T) {
	// 5 is reached by 1 4, 2 3 and 3 2: the lesser vertex stands ahead, though a greater one follows.
	leads(t, [][]int{{3, 2, 1}, {4}, {3}, {2}, {5}, nil}, 0, 5, []int{0, 1, 4, 5})
	leads(t, [][]int{{3, 2, 1}, {4}, {5}, {5}, {5}, nil}, 0, 5, []int{0, 2, 5})
	// A shorter way through great vertices comes ahead of a longer one through lesser ones.
	leads(t, [][]int{{1, 7}, {2}, {3}, {6}, nil, nil, nil, {6}}, 0, 6, []int{0, 7, 6})
	// Two ways part at once, and each has the lesser vertex at some place.
	leads(t, [][]int{{4, 3}, nil, {6}, {5}, {1, 2}, {6}, nil}, 0, 6, []int{0, 3, 5, 6})
	leads(t, [][]int{{5, 4}, {6}, nil, nil, {3, 2}, {1}, nil}, 0, 6, []int{0, 5, 1, 6})
	// Two ways part behind a vertex that they share.
	leads(t, [][]int{{4}, {5}, {5}, {5}, {3, 2, 1}, nil}, 0, 5, []int{0, 4, 1, 5})
	// Two ways part and join.
	leads(t, [][]int{{2, 1}, {3}, {3}, {5, 4}, {6}, {6}, nil}, 0, 6, []int{0, 1, 3, 4, 6})
	// Edges that stand several times are no other ways.
	leads(t, [][]int{{2, 2, 1, 2, 1}, {3, 3}, {3, 3, 3}, nil}, 0, 3, []int{0, 1, 3})
	// A way of one edge, also against the numbers, and both ways.
	leads(t, [][]int{nil, {0}}, 1, 0, []int{1, 0})
	leads(t, [][]int{{1}, {0}}, 0, 1, []int{0, 1})
	leads(t, [][]int{{0}, {1}}, 0, 1, nil)
}

// TestP1104Ladder: 2^255 shortest ways, of which one is the least.
func TestP1104Ladder(t *testing.T) {
	// The steps 2i + 1 and 2i + 2 lead both to the next two.
	g := bare(512)
	g[0] = []int{2, 1}
	for v := 1; v < 509; v++ {
		next := (v+1)/2*2 + 1
		g[v] = []int{next + 1, next}
	}
	g[509], g[510] = []int{511}, []int{511}
	should := []int{0}
	for v := 1; v <= 511; v += 2 {
		should = append(should, v)
	}
	leads(t, g, 0, 511, should)
	goesThrough(t, g, 256)
}

func TestP1104ChainAndCircle(t *testing.T) {
	for _, n := range []int{2, 3, 63, 64, 65, 128, 511, 512} {
		leads(t, chain(n), 0, n-1, numbers(n))
		leads(t, chain(n), n-1, 0, nil)
		leads(t, circle(n), 0, n-1, numbers(n))
		leads(t, circle(n), n-1, 0, []int{n - 1, 0})
		leads(t, circle(n), 1, 0, append(numbers(n)[1:], 0))
		leads(t, fan(n), 0, n-1, []int{0, n - 1})
		leads(t, bare(n), 0, n-1, nil)
		goesThrough(t, chain(n), n-1)
		goesThrough(t, fan(n), n-1)
		goesThrough(t, renamed(chain(n), downward(n)), n-1)
		goesThrough(t, circle(n), 0)
		goesThrough(t, full(n), 0)
		goesThrough(t, bare(n), 0)
		down := renamed(chain(n), downward(n))
		turns(t, chain(n), down)
		turns(t, down, chain(n))
		turns(t, full(n), full(n))
		turns(t, bare(n), bare(n))
	}
}

// TestP1104Depth: the greatest number of components is met by a way that takes no short cut, and within a component a way may go on.
func TestP1104Depth(t *testing.T) {
	goesThrough(t, [][]int{{1, 3}, {2}, {3}, nil}, 3)
	goesThrough(t, [][]int{{3}, nil, nil, {1, 2}}, 2)
	goesThrough(t, [][]int{{1}, {0, 2}, {3}, {2}}, 1)
	goesThrough(t, [][]int{{1}, {0}, {3}, {2}}, 0)
	goesThrough(t, [][]int{{0, 0}, {1, 1, 1}, {2}}, 0)
	// From 0 a short way and a long one that end alike; from 5 a longer one joins.
	goesThrough(t, [][]int{{4, 1}, {2}, {4}, nil, {3}, {6}, {7}, {1}}, 6)
	// The vertices are met in another order than that of their depths.
	goesThrough(t, [][]int{nil, {0}, {1, 0}, {0, 1, 2}, {0, 2}}, 3)
}

// TestP1104Turn: each edge as often as it stood, each list rising.
func TestP1104Turn(t *testing.T) {
	turns(t, [][]int{{2, 0, 2, 1}, {2, 2, 2}, nil}, [][]int{{0}, {0}, {0, 0, 1, 1, 1}})
	turns(t, [][]int{{0, 0, 0}}, [][]int{{0, 0, 0}})
	turns(t, [][]int{{1}, nil, {1, 0}, {1, 1, 3, 0}}, [][]int{{2, 3}, {0, 2, 3, 3}, nil, {3}})
}
