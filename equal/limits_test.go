package equal_test

import (
	"strings"
	"testing"

	"eggbox/api"
	"eggbox/auto"
)

// periodic are automata of k letters, of n and of m states, n and m - tail having no common divisor, whose languages are unlike for the first time at n + m - 2 letters: the first is a ring, the second a ring with a tail. (Fine, Wilf: sequences of periods n and m may be alike for n + m - 2 places, and not for more.)
func periodic(k, n, m, tail int) (api.Auto, api.Auto) {
	a, b := lasso(k, 0, n), lasso(k, tail, m-tail)
	// Places of the sequences that must have one value, as the two go round, have one root.
	root := make([]int, n+m-2)
	for i := range root {
		root[i] = i
	}
	up := func(i int) int {
		for root[i] != i {
			i = root[i]
		}
		return i
	}
	for i := range root {
		if i >= n {
			root[up(i)] = up(i - n)
		}
		if i >= m {
			root[up(i)] = up(i - (m - tail))
		}
	}
	last := up(len(root) - 1)
	for i := range root {
		if i < n {
			a.Accept[i] = up(i) == last
		}
		if i < m {
			b.Accept[i] = up(i) == last
		}
	}
	return a, b
}

// repeated is a word of so many letters, all of them a.
func repeated(letters int) string { return strings.Repeat("a", letters) }

// TestP12_4LongestDiffer: n + m - 2 letters.
func TestP12_4LongestDiffer(t *testing.T) {
	for _, c := range [][3]int{{1, 2, 0}, {2, 3, 0}, {3, 4, 0}, {5, 7, 0}, {8, 13, 0}, {64, 65, 0}, {2, 2, 1}, {5, 5, 1}, {64, 64, 1}, {10, 14, 5}, {4096, 4095, 0}, {4095, 4096, 0}, {4096, 4096, 1}} {
		for _, k := range []int{1, 2, 8} {
			a, b := periodic(k, c[0], c[1], c[2])
			if len(a.Accept) != c[0] || len(b.Accept) != c[1] {
				t.Fatalf("%v: %d and %d states", c, len(a.Accept), len(b.Accept))
			}
			longest := repeated(c[0] + c[1] - 2)
			differ.finds(t, a, b, longest, true)
			differ.finds(t, b, a, longest, true)
			isEqual.says(t, a, b, false)
		}
	}
}

// TestP12_4LongestOfRings: rings without a common divisor go through all pairs, n m of them, and the last is the one that is found.
func TestP12_4LongestOfRings(t *testing.T) {
	for _, c := range [][2]int{{1, 1}, {1, 2}, {1, 4096}, {4096, 1}, {2, 3}, {7, 11}, {63, 64}, {64, 65}, {127, 129}, {500, 501}} {
		n, m := c[0], c[1]
		for _, k := range []int{1, 3} {
			a, b := lasso(k, 0, n, n-1), lasso(k, 0, m, m-1)
			meet.finds(t, a, b, repeated(n*m-1), true)
			escape.finds(t, a, turned(b), repeated(n*m-1), true)
			isInside.says(t, a, turned(b), false)
		}
	}
}

// turning are two automata of n states each, over a and b: a leads each on in its ring; b stays, but for the first one's last state, which it leads to 0. All n n pairs are met one by one, the last one by the word that is answered, too, and that alone is accepted by both.
func turning(n int) (api.Auto, api.Auto, string) {
	a, b := lasso(2, 0, n, n-1), lasso(2, 0, n, 0)
	for s := range n {
		a.Next[2*s+1], b.Next[2*s+1] = s, s
	}
	a.Next[2*n-1] = 0
	round := repeated(n - 1)
	return a, b, strings.Repeat(round+"b", n-1) + round
}

// TestP12_4LongestOfMostStates: two automata of MaxAuto states each, and a word of n m - 1 letters.
func TestP12_4LongestOfMostStates(t *testing.T) {
	for _, n := range []int{2, 3, 5, 64, 65, 300, 4096} {
		a, b, w := turning(n)
		if len(w) != n*n-1 {
			t.Fatalf("a word of %d letters", len(w))
		}
		meet.finds(t, a, b, w, true)
		escape.finds(t, a, turned(b), w, true)
	}
}

// TestP12_2MostPairs: nearly all pairs are met, and none shows it.
func TestP12_2MostPairs(t *testing.T) {
	// Of words of odd length and of even length: the rings have the greatest common divisor 2.
	odd, even := lasso(1, 0, 4096), lasso(1, 0, 4094)
	for s := range 4094 {
		odd.Accept[s], even.Accept[s] = s%2 == 1, s%2 == 0
	}
	odd.Accept[4095] = true
	meet.finds(t, odd, even, "", false)
	isInside.says(t, odd, turned(even), true)
	isEqual.says(t, odd, turned(even), true)
	differ.finds(t, odd, turned(even), "", false)
	differ.finds(t, odd, even, "", true)
	// With one state more accepted in the first, and but one of the second left, they meet at last: 4094 less than a multiple of both.
	odd.Accept[2] = true
	even.Accept = make([]bool, 4094)
	even.Accept[0] = true
	meet.finds(t, odd, even, repeated(4094*2047), true)
}

// TestP12_2MoreStates: thrown automata of some hundred states, where nearly all pairs are met ahead of the one that is found.
func TestP12_2MoreStates(t *testing.T) {
	d := dice(5)
	for k := 1; k <= 8; k++ {
		for range 4 {
			n, m := 60+d.below(100), 60+d.below(100)
			a, b := d.thrown(k, n, 1000), d.thrown(k, m, 1000)
			a.Accept[d.below(n)], b.Accept[d.below(m)] = true, true
			for _, s := range searches() {
				for _, p := range [][2]api.Auto{{a, b}, {b, a}, {a, turned(b)}, {turned(b), turned(a)}} {
					w, found := byLengths(p[0], p[1], s.shows)
					s.finds(t, p[0], p[1], w, found)
				}
			}
		}
	}
}

// TestP12_1MostStates: thrown automata of MaxAuto states, of one language and so but for a state.
func TestP12_1MostStates(t *testing.T) {
	d := dice(2026)
	for _, k := range []int{1, 2, 8} {
		m := d.thrown(k, 300, 3)
		a, b := d.blown(m, 4096), d.blown(m, 4096)
		isEqual.says(t, a, b, true)
		differ.finds(t, a, b, "", false)
		isInside.says(t, a, m, true)
		isInside.says(t, m, b, true)
		escape.finds(t, a, b, "", false)
		least, found, _ := auto.Least(m)
		meet.finds(t, a, b, least, found)
		meet.finds(t, a, turned(b), "", false)
	}
}

// TestP12_2MostStatesOneOff: of thrown automata the one has one word's last state accepted, the other not: what is found is that state's least word.
func TestP12_2MostStatesOneOff(t *testing.T) {
	d := dice(10)
	for k := 1; k <= 8; k++ {
		a, _ := auto.Reach(d.thrown(k, 4096, 2))
		b := clone(a)
		last := len(a.Accept) - 1
		a.Accept[last], b.Accept[last] = true, false
		only := still(k, len(a.Accept))
		copy(only.Next, a.Next)
		only.Accept[last] = true
		w, found, _ := auto.Least(only)
		differ.finds(t, a, b, w, found)
		escape.finds(t, a, b, w, found)
		escape.finds(t, b, a, "", false)
		meet.finds(t, a, turned(b), w, found)
		meet.finds(t, only, a, w, found)
		isInside.says(t, a, b, false)
		isInside.says(t, b, a, true)
		isEqual.says(t, a, b, false)
	}
}
