package graph_test

import (
	"slices"
	"strconv"
	"strings"
	"testing"

	"eggbox/api"
	"eggbox/bits"
)

// example is the chapter's G.
func example() [][]int { return [][]int{{1}, {0, 2}, {2}, {0}} }

// bare has n vertices and no edge.
func bare(n int) [][]int { return make([][]int, n) }

// chain leads from each of n vertices to the next one.
func chain(n int) [][]int {
	out := bare(n)
	for v := range n - 1 {
		out[v] = []int{v + 1}
	}
	return out
}

// circle is a chain that leads from the last vertex to the first one.
func circle(n int) [][]int {
	out := chain(n)
	out[n-1] = []int{0}
	return out
}

// full leads from each of n vertices to all of them.
func full(n int) [][]int {
	out := bare(n)
	for v := range out {
		out[v] = numbers(n)
	}
	return out
}

// fan leads from each of n vertices to all behind it.
func fan(n int) [][]int {
	out := bare(n)
	for v := range out {
		out[v] = numbers(n)[v+1:]
	}
	return out
}

// numbers are 0 to n - 1.
func numbers(n int) []int {
	out := make([]int, n)
	for i := range out {
		out[i] = i
	}
	return out
}

// downward are n - 1 to 0.
func downward(n int) []int {
	out := numbers(n)
	slices.Reverse(out)
	return out
}

// beside is g with the vertices of h behind its own.
func beside(g, h [][]int) [][]int {
	out := clone(g)
	for _, list := range h {
		moved := make([]int, len(list))
		for i, v := range list {
			moved[i] = v + len(g)
		}
		out = append(out, moved)
	}
	return out
}

// joined is g with one more edge.
func joined(g [][]int, from, to int) [][]int {
	out := clone(g)
	out[from] = append(out[from], to)
	return out
}

// renamed is g, where each vertex has the name of another one: names has each vertex once.
func renamed(g [][]int, names []int) [][]int {
	out := bare(len(g))
	for v, list := range g {
		for _, u := range list {
			out[names[v]] = append(out[names[v]], names[u])
		}
	}
	return out
}

func clone(g [][]int) [][]int {
	out := make([][]int, len(g))
	for v, list := range g {
		out[v] = slices.Clone(list)
	}
	return out
}

func same(g, h [][]int) bool {
	return slices.EqualFunc(g, h, func(l, m []int) bool { return slices.Equal(l, m) })
}

// set is the set of these numbers, which fit.
func set(list ...int) api.Set {
	out, _ := bits.Of(list)
	return out
}

// below is the set of all numbers below n.
func below(n int) api.Set { return set(numbers(n)...) }

// brief is a graph as a message may show it, shortList a list, shortSets a list of sets.
func brief(g [][]int) string {
	if len(g) > 12 {
		return strconv.Itoa(len(g)) + " vertices, from 0 to " + shortList(g[0])
	}
	var out []string
	for _, list := range g {
		out = append(out, shortList(list))
	}
	return "{" + strings.Join(out, " ") + "}"
}

func shortList(l []int) string {
	var out []string
	for _, n := range l[:min(len(l), 40)] {
		out = append(out, strconv.Itoa(n))
	}
	if len(l) > 40 {
		out = append(out, "..")
	}
	return "[" + strings.Join(out, " ") + "]"
}

func shortSets(l []api.Set) string {
	var out []string
	for _, s := range l[:min(len(l), 12)] {
		out = append(out, shortList(bits.List(s)))
	}
	if len(l) > 12 {
		out = append(out, "..")
	}
	return "{" + strings.Join(out, " ") + "}"
}

// dice answers numbers that look thrown and are the same at each run.
type dice uint64

func (d *dice) below(n int) int {
	x := uint64(*d)
	x ^= x << 13
	x ^= x >> 7
	x ^= x << 17
	*d = dice(x)
	return int(x >> 11 % uint64(n))
}

// thrown is a graph of n vertices and so many edges.
func (d *dice) thrown(n, edges int) [][]int {
	out := bare(n)
	for range edges {
		v := d.below(n)
		out[v] = append(out[v], d.below(n))
	}
	return out
}

// sloping is a graph of n vertices and so many edges, of which about one of a hundred leads to a lesser vertex, or to the same one.
func (d *dice) sloping(n, edges int) [][]int {
	out := bare(n)
	for range edges {
		v, u := d.below(n), d.below(n)
		if d.below(100) > 0 {
			v, u = min(v, u), max(v, u)
		}
		if v != u || d.below(20) == 0 {
			out[v] = append(out[v], u)
		}
	}
	return out
}

// names are 0 to n - 1 in a thrown order.
func (d *dice) names(n int) []int {
	out := numbers(n)
	for i := n - 1; i > 0; i-- {
		j := d.below(i + 1)
		out[i], out[j] = out[j], out[i]
	}
	return out
}

// twisted has the edges of g in another order, and some of them several times.
func (d *dice) twisted(g [][]int) [][]int {
	out := bare(len(g))
	for v, list := range g {
		for _, i := range d.names(len(list)) {
			for range 1 + d.below(3) {
				out[v] = append(out[v], list[i])
			}
		}
		d.shuffle(out[v])
	}
	return out
}

func (d *dice) shuffle(list []int) {
	old := slices.Clone(list)
	for i, j := range d.names(len(list)) {
		list[i] = old[j]
	}
}

// everyGraph is each graph of n vertices where no edge stands twice, with rising lists.
func everyGraph(n int) [][][]int {
	var out [][][]int
	for code := range 1 << (n * n) {
		g := bare(n)
		for at := range n * n {
			if code>>at&1 == 1 {
				g[at/n] = append(g[at/n], at%n)
			}
		}
		out = append(out, g)
	}
	return out
}

// small are all graphs of at most 3 vertices, and thrown ones of 4 and 5, as they are and twisted.
func small() [][][]int {
	d := dice(88172645463325252)
	out := slices.Concat(everyGraph(0), everyGraph(1), everyGraph(2), everyGraph(3))
	for range 300 {
		out = append(out, d.thrown(4, d.below(10)), d.thrown(5, d.below(9)), d.sloping(5, d.below(9)))
	}
	for _, g := range slices.Clone(out) {
		out = append(out, d.twisted(g))
	}
	return append(out, example())
}

// middling are graphs of up to some 40 vertices.
func middling() [][][]int {
	d := dice(4711)
	var out [][][]int
	for n := 6; n <= 40; n++ {
		for _, edges := range []int{n / 2, n, n + n/3, 2 * n, n * n / 3} {
			out = append(out, d.thrown(n, edges), d.sloping(n, edges))
		}
		out = append(out, chain(n), circle(n), bare(n), fan(n), full(n))
		out = append(out, renamed(chain(n), d.names(n)), renamed(circle(n), d.names(n)), renamed(d.sloping(n, 3*n), d.names(n)))
		halves := beside(circle(n/2), circle(n-n/2))
		out = append(out, halves, joined(halves, 0, n/2), joined(halves, n-1, 1), joined(joined(halves, n-1, 1), 1, n-1), d.twisted(halves))
	}
	return out
}

// great are graphs of MaxVertices vertices.
func great() [][][]int {
	d := dice(99)
	const n = api.MaxVertices
	out := [][][]int{bare(n), chain(n), circle(n), full(n), fan(n)}
	out = append(out, renamed(chain(n), downward(n)), renamed(circle(n), d.names(n)), renamed(chain(n), d.names(n)))
	out = append(out, d.thrown(n, n/2), d.thrown(n, n), d.thrown(n, 2*n), d.sloping(n, 2*n), renamed(d.sloping(n, 4*n), d.names(n)))
	halves := beside(circle(n/2), circle(n/2))
	return append(out, halves, joined(halves, 7, n/2), joined(halves, n-1, 3))
}

// everySample is each graph of these lists.
func everySample() [][][]int { return slices.Concat(small(), middling(), great()) }

// isOK holds a call's error to OK.
func isOK(t *testing.T, call string, e api.Errno) {
	t.Helper()
	if e != api.OK {
		t.Errorf("%s: error %d", call, e)
	}
}
