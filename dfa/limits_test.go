package dfa_test

import (
	"slices"
	"strconv"
	"testing"

	"eggbox/api"
	"eggbox/dfa"
)

// TestP902JustMaxDerivs: expressions with 199 and 200 derivatives, and with more.
func TestP902JustMaxDerivs(t *testing.T) {
	families := []struct {
		what string
		k    int
		of   func(n int) []api.Node
		more int // how many derivatives beside n
	}{
		{"letters a", 1, func(n int) []api.Node { return times(n, 'a') }, 2},
		{"letters a", 8, func(n int) []api.Node { return times(n, 'a') }, 2},
		{"letters h", 8, func(n int) []api.Node { return times(n, 'h') }, 2},
		{"not so many letters b", 2, func(n int) []api.Node { return not(times(n, 'b')) }, 2},
		{"a ring of letters a", 1, func(n int) []api.Node { return star(times(n, 'a')) }, 0},
		{"a ring of letters c", 3, func(n int) []api.Node { return star(times(n, 'c')) }, 1},
		{"a tail and a ring", 2, func(n int) []api.Node { return cat(times(n-100, 'b'), star(times(100, 'a'))) }, 1},
		{"a tail and all", 2, func(n int) []api.Node { return cat(times(n, 'b'), all) }, 2},
		{"any letters", 5, func(n int) []api.Node { return even(api.Concat, slices.Repeat([][]api.Node{dot}, n)...) }, 2},
		{"two ways", 2, func(n int) []api.Node { return or(cat(a, times(n-100, 'a')), cat(b, times(100, 'b'))) }, 3},
	}
	for _, x := range families {
		for _, n := range []int{150, api.MaxDerivs - 1, api.MaxDerivs} {
			has(t, x.what, x.k, x.of(n-x.more), n)
		}
		for _, n := range []int{api.MaxDerivs + 1, api.MaxDerivs + 2, 2 * api.MaxDerivs} {
			refused(t, x.what+" with "+strconv.Itoa(n), x.k, x.of(n-x.more), api.ErrStates)
		}
	}
}

// wide is an expression of eight letters whose derivatives are many at short words, and of a row of letters.
func wide(teeth, letters int) []api.Node {
	parts := [][]api.Node{times(letters, 'a')}
	for i := range teeth {
		w := string([]byte{'a' + byte(i%8), 'a' + byte(i/8), 'a' + byte(i*5%8)})
		parts = append(parts, cat(row(w[:2]), star(row(w))))
	}
	return even(api.Union, parts...)
}

// TestP902TooManyAtOnce: lists that grow by several trees at each of their trees.
func TestP902TooManyAtOnce(t *testing.T) {
	for teeth := 20; teeth <= 52; teeth += 8 {
		trees, _, _ := listed(8, wide(teeth, 100), 1000)
		for more := -2; more <= 3; more++ {
			letters := 100 + api.MaxDerivs - len(trees) + more
			if more <= 0 {
				has(t, "a wide expression", 8, wide(teeth, letters), api.MaxDerivs+more)
			} else {
				refused(t, "a wide expression", 8, wide(teeth, letters), api.ErrStates)
			}
		}
	}
}

// TestP902Exponential: expressions with far more derivatives than nodes are refused, and soon.
func TestP902Exponential(t *testing.T) {
	for letters := 1; letters < 40; letters++ {
		l := cat(cat(all, a), even(api.Concat, slices.Repeat([][]api.Node{dot}, letters)...))
		if letters <= 6 {
			has(t, "an a so many places from the end", 2, l, 2<<letters)
		} else {
			refused(t, "an a so many places from the end", 2, l, api.ErrStates)
		}
	}
	nest := star(a)
	for i := range 60 {
		nest = star(cat(nest, letter('a'+byte(i%2))))
	}
	refused(t, "stars in one another", 2, nest, api.ErrStates)
}

// rows are the expressions of words.
func rows(words []string) [][]api.Node {
	var out [][]api.Node
	for _, w := range words {
		out = append(out, row(w))
	}
	return out
}

// padded is an expression of just that many nodes, as many as its normal form has, whose derivatives are few and lesser, and say no empty word but where they are Empty: a union of words of three letters, five nodes each; some have a star at the first letter, which is no other word's first one.
func padded(nodes int) []api.Node {
	members, stars := (nodes+1)/6, (nodes+1)%6
	parts := rows(words(8, 3)[73:][:members-stars])
	for i := range stars {
		parts = append(parts, cat(star(letter('g')), row("g"+string(rune('a'+i)))))
	}
	return even(api.Union, parts...)
}

// grown is an expression whose greatest derivative has just that many nodes, an even number.
func grown(sign byte, nodes int) []api.Node { return star(cat(letter(sign), padded(nodes/2-2))) }

// near, full and over are expressions whose greatest derivatives have two nodes fewer than MaxNodes, just so many, and two more.
var (
	near = grown('a', api.MaxNodes-2)
	full = grown('a', api.MaxNodes)
	over = grown('a', api.MaxNodes+2)
)

// compilesUpTo holds both calls to the definition, and the greatest derivative to that many nodes.
func compilesUpTo(t *testing.T, l []api.Node, nodes int) {
	t.Helper()
	if !byTheDefinition(t, sample{8, l}) {
		t.Errorf("an expression of %d nodes is refused", len(l))
		return
	}
	trees, _, _ := dfa.Derivs(8, l)
	most := 0
	for _, d := range trees {
		most = max(most, len(d))
	}
	if most != nodes {
		t.Errorf("the greatest derivative has %d nodes, not %d", most, nodes)
	}
}

// TestP902JustMaxNodes: derivatives of just MaxNodes nodes, and of one and two more, where the trees are few.
func TestP902JustMaxNodes(t *testing.T) {
	compilesUpTo(t, near, 3998)
	compilesUpTo(t, not(near), 3999)
	compilesUpTo(t, full, 4000)
	compilesUpTo(t, cat(row("bcb"), full), 4000)
	compilesUpTo(t, grown('h', 4000), 4000)
	for _, x := range []struct {
		what string
		l    []api.Node
	}{
		{"one node more", not(full)}, {"two nodes more", over}, {"one node more, later", cat(row("bcb"), not(full))}, {"two nodes more, later", cat(row("bcb"), over)},
		{"by the last letter", grown('h', 4002)}, {"by the last letter, later", cat(row("hhh"), grown('h', 4002))},
		{"within a part that says nothing", and(over, b)}, {"beside all", or(cat(a, all), over)}, {"within a complement", not(not(not(full)))},
		{"many trees as well", cat(times(190, 'b'), over)}, {"many trees behind", or(over, times(500, 'b'))},
	} {
		if _, _, large := listed(8, x.l, api.MaxDerivs); !large {
			t.Errorf("%s: no derivative is too large", x.what)
		}
		refused(t, x.what, 8, x.l, api.ErrStates)
	}
}

// TestP902PastTheLetters: a derivative by a letter that is none of the k letters is not asked for.
func TestP902PastTheLetters(t *testing.T) {
	notA := and(not(cat(a, all)), dot)
	l := star(cat(notA, times(1000, 'a')))
	has(t, "words that begin with no a", 1, l, 2)
	for k := 2; k <= 8; k++ {
		refused(t, "words that begin with no a", k, l, api.ErrStates)
	}
}

// TestP902GreatTrees: trees of just MaxNodes nodes.
func TestP902GreatTrees(t *testing.T) {
	letters := even(api.Union, slices.Repeat([][]api.Node{a, b, c, dot}, 500)...)
	has(t, "a union of 3999 nodes", 3, letters, 3)
	has(t, "a complement of 4000 nodes", 3, not(letters), 3)
	refused(t, "one node more", 3, not(not(letters)), api.ErrSize)
	has(t, "3999 nodes with one letter", 1, even(api.Inter, slices.Repeat([][]api.Node{a}, 2000)...), 3)
	// 4000 nodes, none of which falls away.
	all3 := even(api.Union, rows(words(8, 3)[73:])...)
	compilesUpTo(t, cat(all3, padded(4000-1-len(all3))), 4000)
	refused(t, "a row of 4000 nodes", 1, not(times(2000, 'a')), api.ErrStates)
}
