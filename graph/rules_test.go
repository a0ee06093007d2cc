package graph_test

import (
	"slices"
	"testing"

	"eggbox/api"
	"eggbox/graph"
)

// answers are what all calls answer.
type answers struct {
	of     []int
	count  int
	reach  api.Set
	loops  api.Set
	above  []api.Set
	path   []int
	found  bool
	depth  int
	turned [][]int
	errors [8]api.Errno
}

func everyAnswer(g [][]int, from, to int) answers {
	var out answers
	out.of, out.count, out.errors[0] = graph.Components(g)
	out.reach, out.errors[1] = graph.Reach(g, from)
	out.loops, out.errors[2] = graph.Loops(g)
	out.above, out.errors[3] = graph.Above(g)
	out.path, out.found, out.errors[4] = graph.Path(g, from, to)
	out.depth, out.errors[5] = graph.Depth(g)
	out.turned, out.errors[6] = graph.Turn(g)
	out.errors[7] = graph.Check(g)
	return out
}

func (x answers) clone() answers {
	out := x
	out.of = slices.Clone(x.of)
	out.above = slices.Clone(x.above)
	out.path = slices.Clone(x.path)
	out.turned = clone(x.turned)
	return out
}

func (x answers) same(y answers) bool {
	lists := slices.Equal(x.of, y.of) && slices.Equal(x.above, y.above) && slices.Equal(x.path, y.path) && same(x.turned, y.turned)
	return lists && x.count == y.count && x.reach == y.reach && x.loops == y.loops && x.found == y.found && x.depth == y.depth && x.errors == y.errors
}

// some are graphs, and some that may not be.
func some() [][][]int {
	d := dice(5)
	var out [][][]int
	for i, g := range everySample() {
		if i%3 == 0 || len(g) > 40 {
			out = append(out, g, d.twisted(g))
		}
	}
	for _, w := range wrongs() {
		out = append(out, w.g)
	}
	return out
}

// ends are two vertices, if there are any, between which there may be a way.
func ends(g [][]int) (int, int) { return 0, len(g) / 2 }

// spare fills the room behind a list, so that a write there is seen.
var spare = [4]int{77, 78, 79, 80}

// roomy is the graph in lists with room behind them, of which each one's room is ahead of the next one: they are pieces of one list.
func roomy(g [][]int) ([][]int, []int) {
	var all []int
	for _, list := range g {
		all = append(append(all, list...), spare[:]...)
	}
	out := make([][]int, 0, len(g)+1)
	at := 0
	for _, list := range g {
		out = append(out, all[at:at+len(list)])
		at += len(list) + len(spare)
	}
	return append(out, spare[:])[:len(g)], all
}

// TestP1WhatIsHandedInIsNotChanged: neither the lists, nor the room behind each, nor that behind all.
func TestP1WhatIsHandedInIsNotChanged(t *testing.T) {
	for _, kept := range some() {
		g, all := roomy(kept)
		before := slices.Clone(all)
		from, to := ends(g)
		everyAnswer(g, from, to)
		if !same(g, kept) || !slices.Equal(all, before) || !slices.Equal(g[:len(g)+1][len(g)], spare[:]) || spare != [4]int{77, 78, 79, 80} {
			t.Fatalf("what was handed in was changed: %s", brief(kept))
		}
	}
}

// spoil writes over a list and the room behind it.
func spoil[T any](list []T, by T) {
	for i := range list[:cap(list)] {
		list[:cap(list)][i] = by
	}
}

// spoilers write each over one list of the answers, and the room behind it; the last one over the lists of Turn.
func spoilers(x answers) []func() {
	out := []func(){func() { spoil(x.of, -9) }, func() { spoil(x.above, api.Set{1 << 9, 3}) }, func() { spoil(x.path, -9) }}
	for _, list := range x.turned {
		out = append(out, func() { spoil(list, -9) })
	}
	return append(out, func() { spoil(x.turned, []int{-9}) })
}

// TestP1AnswersAreNewMemory: writing over an answer changes no other one, nor what was handed in; writing over that changes no answer.
func TestP1AnswersAreNewMemory(t *testing.T) {
	for _, kept := range some() {
		g := clone(kept)
		from, to := ends(g)
		first := everyAnswer(g, from, to)
		should := first.clone()
		for _, spoil := range spoilers(everyAnswer(g, from, to)) {
			spoil()
		}
		if !same(g, kept) || !first.same(should) {
			t.Fatalf("answers of %s share memory with one another, or with it", brief(kept))
		}
		for _, list := range g {
			spoil(list, 1)
		}
		spoil(g, []int{1})
		if !first.same(should) {
			t.Fatalf("an answer shares memory with what was handed in: %s", brief(kept))
		}
	}
}

// TestP1ListsOfOneAnswerAreApart: writing over one list of Turn, and the room behind it, changes no other one.
func TestP1ListsOfOneAnswerAreApart(t *testing.T) {
	d := dice(11)
	for _, g := range slices.Concat(small(), middling(), [][][]int{full(80), d.thrown(512, 3000)}) {
		turned, _ := graph.Turn(g)
		should := clone(turned)
		for v := range turned {
			spoil(turned[v], -9)
			turned[v] = should[v]
			if !same(turned, should) {
				t.Fatalf("list %d of Turn of %s shares memory with another one", v, brief(g))
			}
		}
	}
}

// TestP1TheSameAnswerAgain: whatever was asked between.
func TestP1TheSameAnswerAgain(t *testing.T) {
	all := some()
	var first []answers
	for _, g := range all {
		from, to := ends(g)
		first = append(first, everyAnswer(g, from, to))
	}
	for i, g := range slices.Backward(all) {
		from, to := ends(g)
		if !everyAnswer(g, from, to).same(first[i]) {
			t.Errorf("%s has other answers after other calls", brief(g))
		}
	}
}

// TestP1101OrderOfLists: but for the order of the lists, and how often an edge stands there, nothing hangs on them.
func TestP1101OrderOfLists(t *testing.T) {
	d := dice(23)
	for _, g := range everySample() {
		from, to := ends(g)
		plain, other := everyAnswer(g, from, to), everyAnswer(d.twisted(g), from, to)
		other.turned = plain.turned
		if !plain.same(other) {
			t.Fatalf("%s, and with its lists twisted: %+v, %+v", brief(g), plain, other)
		}
	}
}

// TestP1NoListIsTheEmptyList: of all vertices, and of one.
func TestP1NoListIsTheEmptyList(t *testing.T) {
	for _, g := range everySample() {
		empty, none := clone(g), clone(g)
		for v, list := range g {
			if len(list) == 0 {
				empty[v], none[v] = []int{}, nil
			}
		}
		from, to := ends(g)
		if !everyAnswer(empty, from, to).same(everyAnswer(none, from, to)) {
			t.Errorf("%s: an empty list is not what no list is", brief(g))
		}
	}
	if !everyAnswer(nil, 0, 0).same(everyAnswer([][]int{}, 0, 0)) {
		t.Error("a graph without vertices is not what no graph is")
	}
}

// TestP1EveryInputEndsWithoutPanic: thrown lists, vertices and numbers, some of which are right; nothing stands beside an error.
func TestP1EveryInputEndsWithoutPanic(t *testing.T) {
	d := dice(17)
	right := 0
	for range 20000 {
		n := d.below(7)
		g := bare(n)
		for v := range g {
			for range d.below(4) {
				g[v] = append(g[v], d.below(n+d.below(20)/19)-d.below(40)/39)
			}
		}
		got := everyAnswer(g, d.below(n+3)-1, d.below(n+3)-1)
		if got.errors[7] == api.OK {
			right++
		} else if !got.same(answers{errors: got.errors}) {
			t.Fatalf("something stands beside an error of %s: %+v", brief(g), got)
		}
		if got.errors[1] != api.OK && got.reach != (api.Set{}) || got.errors[4] != api.OK && (got.found || len(got.path) > 0) || !got.found && len(got.path) > 0 {
			t.Fatalf("something stands beside an error of %s, or beside false: %+v", brief(g), got)
		}
	}
	if right < 5000 || right > 19500 {
		t.Errorf("%d calls had graphs", right)
	}
}

// TestP1ManyEdges: an edge that stands a million times, and lists that are all one.
func TestP1ManyEdges(t *testing.T) {
	many := slices.Repeat([]int{1, 0}, 1<<20)
	g := [][]int{many, nil}
	divides(t, g, []int{0, 1}, 2)
	turnsBack(t, g, set(0))
	stands(t, g, set(0, 1), set(1))
	reaches(t, g, 0, set(0, 1))
	leads(t, g, 0, 1, []int{0, 1})
	goesThrough(t, g, 1)
	turns(t, g, [][]int{make([]int, 1<<20), make([]int, 1<<20)})
	list := slices.Repeat(downward(512), 8)
	g = slices.Repeat([][]int{list}, 512)
	divides(t, g, make([]int, 512), 1)
	turnsBack(t, g, below(512))
	reaches(t, g, 511, below(512))
	leads(t, g, 511, 3, []int{511, 3})
	turned, e := graph.Turn(g)
	isOK(t, "Turn", e)
	for _, got := range turned {
		if len(got) != 8*512 || !slices.IsSorted(got) || got[0] != 0 || got[8] != 1 || got[8*512-1] != 511 {
			t.Fatalf("Turn of a graph with each edge eight times has %s", shortList(got))
		}
	}
}
