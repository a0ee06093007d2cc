package graph_test

import (
	"slices"
	"strconv"
	"testing"

	"eggbox/api"
	"eggbox/bits"
	"eggbox/graph"
)

// divides holds Components' answer.
func divides(t *testing.T, g [][]int, of []int, count int) {
	t.Helper()
	got, n, e := graph.Components(g)
	if e != api.OK || n != count || !slices.Equal(got, of) {
		t.Errorf("Components of %s is %s, %d, %d; should be %s, %d", brief(g), shortList(got), n, e, shortList(of), count)
	}
}

// reaches holds Reach's answer.
func reaches(t *testing.T, g [][]int, from int, should api.Set) {
	t.Helper()
	if got, e := graph.Reach(g, from); e != api.OK || got != should {
		t.Errorf("Reach of %s, %d is %s, %d; should be %s", brief(g), from, shortList(bits.List(got)), e, shortList(bits.List(should)))
	}
}

// turnsBack holds Loops' answer.
func turnsBack(t *testing.T, g [][]int, should api.Set) {
	t.Helper()
	if got, e := graph.Loops(g); e != api.OK || got != should {
		t.Errorf("Loops of %s is %s, %d; should be %s", brief(g), shortList(bits.List(got)), e, shortList(bits.List(should)))
	}
}

// stands holds Above's answer.
func stands(t *testing.T, g [][]int, should ...api.Set) {
	t.Helper()
	if got, e := graph.Above(g); e != api.OK || !slices.Equal(got, should) {
		t.Errorf("Above of %s is %s, %d; should be %s", brief(g), shortSets(got), e, shortSets(should))
	}
}

func TestP1103Examples(t *testing.T) {
	g := example()
	divides(t, g, []int{0, 0, 1, 2}, 3)
	reaches(t, g, 0, set(0, 1, 2))
	reaches(t, g, 1, set(0, 1, 2))
	reaches(t, g, 2, set(2))
	reaches(t, g, 3, set(0, 1, 2, 3))
	turnsBack(t, g, set(0, 1, 2))
	stands(t, g, set(0, 1), set(1), set(0, 1, 2))
}

func TestP1103NoVertex(t *testing.T) {
	for _, g := range [][][]int{nil, {}} {
		divides(t, g, nil, 0)
		turnsBack(t, g, set())
		stands(t, g)
	}
}

func TestP1103OneVertex(t *testing.T) {
	for _, g := range [][][]int{{nil}, {{}}, {{0}}, {{0, 0, 0}}} {
		divides(t, g, []int{0}, 1)
		reaches(t, g, 0, set(0))
		stands(t, g, set(0))
		if len(g[0]) == 0 {
			turnsBack(t, g, set())
		} else {
			turnsBack(t, g, set(0))
		}
	}
}

// TestP1103Numbers: components are numbered by their least vertices, whatever leads where.
func TestP1103Numbers(t *testing.T) {
	// Two circles whose vertices alternate, and the one is above the other.
	for _, g := range [][][]int{{{2}, {3}, {0}, {1}}, {{2, 1}, {3}, {0}, {1}}, {{2}, {3}, {0}, {1, 0}}, {{2, 2, 2}, {0, 3}, {2, 0}, {1, 1}}} {
		divides(t, g, []int{0, 1, 0, 1}, 2)
	}
	divides(t, [][]int{{3}, {4}, {1}, {2}, {2}}, []int{0, 1, 1, 2, 1}, 3)
	divides(t, [][]int{{4}, {3}, {2}, {1}, {0}}, []int{0, 1, 2, 1, 0}, 3)
	divides(t, [][]int{{1}, {2}, {3}, {4}, nil}, []int{0, 1, 2, 3, 4}, 5)
	divides(t, [][]int{nil, {0}, {1}, {2}, {3}}, []int{0, 1, 2, 3, 4}, 5)
	stands(t, [][]int{{2, 1}, {3}, {0}, {1}}, set(0, 1), set(1))
	stands(t, [][]int{{2}, {3}, {0}, {1, 0}}, set(0), set(0, 1))
}

// TestP1103ManyWays: one component is reached by several others, and by several ways.
func TestP1103ManyWays(t *testing.T) {
	g := [][]int{{1, 2}, {3}, {3}, {4}, nil, {2, 4}}
	divides(t, g, []int{0, 1, 2, 3, 4, 5}, 6)
	stands(t, g, set(0, 1, 2, 3, 4), set(1, 3, 4), set(2, 3, 4), set(3, 4), set(4), set(2, 3, 4, 5))
	turnsBack(t, g, set())
	// The vertex 2 leads to one that is closed already, and to one that is not.
	g = [][]int{{1, 2}, nil, {1, 0}}
	divides(t, g, []int{0, 1, 0}, 2)
	turnsBack(t, g, set(0, 2))
	stands(t, g, set(0, 1), set(1))
}

// TestP1103Loops: an edge to itself, and ways back through others.
func TestP1103Loops(t *testing.T) {
	turnsBack(t, [][]int{{1}, {1}}, set(1))
	turnsBack(t, [][]int{{0, 1}, nil}, set(0))
	turnsBack(t, [][]int{{1}, {2}, {1}, {0}}, set(1, 2))
	turnsBack(t, [][]int{{1, 1}, {2, 2}, nil}, set())
	turnsBack(t, [][]int{{1}, {2}, {0}, {3}, {0}}, set(0, 1, 2, 3))
}

// TestP1103ChainAndCircle: of several lengths, up to all vertices, on both sides of where a set goes on in its next word.
func TestP1103ChainAndCircle(t *testing.T) {
	for _, n := range []int{2, 3, 63, 64, 65, 128, 511, 512} {
		var above []api.Set
		for v := range n {
			above = append(above, bits.Minus(below(n), below(v)))
		}
		divides(t, chain(n), numbers(n), n)
		turnsBack(t, chain(n), set())
		stands(t, chain(n), above...)
		divides(t, circle(n), make([]int, n), 1)
		turnsBack(t, circle(n), below(n))
		stands(t, circle(n), set(0))
		for _, v := range []int{0, 1, n / 2, n - 1} {
			reaches(t, chain(n), v, above[v])
			reaches(t, circle(n), v, below(n))
			reaches(t, bare(n), v, set(v))
		}
	}
}

// agrees holds all calls to what is known of a graph; those that ask of vertices, of each one that is so many behind the last.
func agrees(t *testing.T, g [][]int, p plain, every int) {
	t.Helper()
	divides(t, g, p.of, p.count)
	turnsBack(t, g, p.loops)
	stands(t, g, p.above...)
	goesThrough(t, g, p.depth)
	turns(t, g, p.turned)
	for v := 0; v < len(g); v += every {
		reaches(t, g, v, p.reach[v])
		for u := v % every; u < len(g); u += every {
			leads(t, g, v, u, p.path(v, u))
		}
	}
	// The last vertex is asked of, whatever was left out.
	if last := len(g) - 1; last > 0 {
		reaches(t, g, last, p.reach[last])
		leads(t, g, 0, last, p.path(0, last))
		leads(t, g, last, 0, p.path(last, 0))
	}
}

// TestP1103P1104ByWays: all calls against all ways.
func TestP1103P1104ByWays(t *testing.T) {
	all := small()
	for i, g := range everyGraph(4) {
		if i%3 == 0 {
			all = append(all, g)
		}
	}
	for _, g := range all {
		agrees(t, g, byWays(g), 1)
		if t.Failed() {
			return
		}
	}
}

// TestP1103P1104ByDistances: all calls against the distances of all vertices.
func TestP1103P1104ByDistances(t *testing.T) {
	for _, g := range slices.Concat(small(), middling()) {
		agrees(t, g, byDistances(g), 1)
		if t.Failed() {
			return
		}
	}
}

func TestP1103P1104MostVertices(t *testing.T) {
	for i, g := range great() {
		agrees(t, g, byDistances(g), 19)
		if t.Failed() {
			t.Fatal("graph " + strconv.Itoa(i))
		}
	}
}
