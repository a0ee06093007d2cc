package graph_test

import (
	"math"
	"strconv"
	"testing"

	"eggbox/api"
	"eggbox/graph"
)

// wrong is a graph that may not be, and why.
type wrong struct {
	g      [][]int
	should api.Errno
}

// with is a graph of n vertices with these edges from one of them.
func with(n, from int, to ...int) [][]int {
	out := bare(n)
	out[from] = to
	return out
}

// wrongs are graphs with too many vertices, with edges to no vertex, and with both.
func wrongs() []wrong {
	out := []wrong{
		{bare(513), api.ErrSize}, {chain(513), api.ErrSize}, {circle(513), api.ErrSize}, {bare(1 << 16), api.ErrSize},
		{[][]int{{1}}, api.ErrRange}, {[][]int{{-1}}, api.ErrRange}, {[][]int{nil, {0, 1, 2}}, api.ErrRange},
		{joined(example(), 0, 4), api.ErrRange}, {joined(example(), 3, -1), api.ErrRange},
		{joined(joined(example(), 0, 4), 3, -1), api.ErrRange},
	}
	for _, n := range []int{1, 2, 5, 64, 65, 511, 512} {
		for _, from := range []int{0, n / 2, n - 1} {
			for _, to := range []int{-1, n, n + 1, 513, 1 << 20, math.MinInt, math.MaxInt, -n, 1 << 32, -1 << 32} {
				out = append(out, wrong{with(n, from, to), api.ErrRange}, wrong{with(n, from, 0, n-1, to), api.ErrRange}, wrong{with(n, from, to, 0), api.ErrRange})
			}
		}
	}
	// Too many vertices come ahead of edges to none.
	for _, to := range []int{-1, 512, 513, 514, math.MinInt, math.MaxInt} {
		out = append(out, wrong{with(513, 0, to), api.ErrSize}, wrong{with(513, 512, to), api.ErrSize}, wrong{with(1000, 0, to), api.ErrSize})
	}
	return out
}

func TestP1102Check(t *testing.T) {
	for _, w := range wrongs() {
		if got := graph.Check(w.g); got != w.should {
			t.Errorf("Check of %s is %d; should be %d", brief(w.g), got, w.should)
		}
	}
	for _, g := range everySample() {
		isOK(t, "Check of "+brief(g), graph.Check(g))
	}
	for _, g := range [][][]int{nil, {}, {nil}, {{}}, {{0}}, {{0, 0, 0}}, with(512, 0, 511), with(512, 511, 0, 511, 511)} {
		isOK(t, "Check of "+brief(g), graph.Check(g))
	}
}

// pairs are vertices to ask of, and what is none.
func pairs(n int) [][2]int {
	return [][2]int{{0, 0}, {0, n - 1}, {-1, 0}, {0, -1}, {-1, -1}, {n, 0}, {0, n}, {n, n}, {-1, n}, {math.MinInt, math.MaxInt}, {math.MaxInt, math.MinInt}, {512, 0}, {0, 513}}
}

// TestP1102CheckFirst: all calls answer Check's error, also where from and to are no vertices, and nothing beside it.
func TestP1102CheckFirst(t *testing.T) {
	for _, w := range wrongs() {
		for _, p := range pairs(len(w.g)) {
			got := everyAnswer(w.g, p[0], p[1])
			var should answers
			for i := range should.errors {
				should.errors[i] = w.should
			}
			if !got.same(should) {
				t.Fatalf("%s, %v: %+v", brief(w.g), p, got)
			}
		}
	}
}

// TestP1102NoVertex: Reach and Path of what is no vertex.
func TestP1102NoVertex(t *testing.T) {
	for _, n := range []int{0, 1, 2, 4, 63, 64, 65, 511, 512} {
		for _, g := range [][][]int{bare(n), full(n), fan(n)} {
			for _, v := range []int{-1, n, n + 1, 512, 513, -n - 1, math.MinInt, math.MaxInt, 1 << 32, -1 << 32} {
				call := brief(g) + ", " + strconv.Itoa(v)
				if s, e := graph.Reach(g, v); s != (api.Set{}) || e != api.ErrNone {
					t.Errorf("Reach of %s is %v, %d", call, s, e)
				}
				for _, p := range [][2]int{{v, 0}, {0, v}, {v, v}, {v, n - 1}, {n - 1, v}, {v, n}, {-1, v}} {
					if way, found, e := graph.Path(g, p[0], p[1]); len(way) > 0 || found || e != api.ErrNone {
						t.Errorf("Path of %s, %v is %v, %v, %d", brief(g), p, way, found, e)
					}
				}
			}
		}
	}
}

func TestP1102Examples(t *testing.T) {
	if e := graph.Check(joined(example(), 2, 4)); e != api.ErrRange {
		t.Errorf("Check of an edge to 4 is %d", e)
	}
	for _, v := range []int{4, -1} {
		if s, e := graph.Reach(example(), v); s != (api.Set{}) || e != api.ErrNone {
			t.Errorf("Reach of %d is %v, %d", v, s, e)
		}
	}
}
