package terms_test

import (
	"slices"

	"eggbox/api"
)

// pairs is the automaton of (ab)*, of which the examples are.
func pairs() api.Auto {
	return api.Auto{Letters: 2, Next: []int{1, 2, 2, 0, 2, 2}, Accept: []bool{true, false, false}}
}

// of is the automaton of k letters and n states where the letter l leads from s to to(s, l).
func of(k, n int, to func(s, l int) int) api.Auto {
	out := api.Auto{Letters: k}
	for s := range n {
		for l := range k {
			out.Next = append(out.Next, to(s, l))
		}
		out.Accept = append(out.Accept, s%3 == 0)
	}
	return out
}

// still is where each letter stays.
func still(k, n int) api.Auto { return of(k, n, func(s, l int) int { return s }) }

// part is a tail of so many states that leads into a ring of so many.
type part struct{ tail, ring int }

func (p part) auto() api.Auto {
	return of(1, p.tail+p.ring, func(s, l int) int {
		if s == p.tail+p.ring-1 {
			return p.tail
		}
		return s + 1
	})
}

// joined is a with the states of b behind its own.
func joined(a, b api.Auto) api.Auto {
	out := api.Auto{Letters: b.Letters, Next: slices.Clone(a.Next), Accept: slices.Concat(a.Accept, b.Accept)}
	for _, s := range b.Next {
		out.Next = append(out.Next, s+len(a.Accept))
	}
	return out
}

// powers has one letter and elements a^0 to a^(n-1), n being tail + 504.
func powers(tail int) api.Auto {
	return joined(joined(part{tail, 7}.auto(), part{0, 8}.auto()), part{0, 9}.auto())
}

// together has a state for each pair of states, and a's letters and then b's, each of which goes along in its own one of the two.
func together(a, b api.Auto) api.Auto {
	n, m := len(a.Accept), len(b.Accept)
	return of(a.Letters+b.Letters, n*m, func(s, l int) int {
		if l < a.Letters {
			return a.Next[s/m*a.Letters+l]*m + s%m
		}
		return s/m*m + b.Next[s%m*b.Letters+l-a.Letters]
	})
}

// allMaps makes all n^n maps of n points: a turns all, b exchanges two, c makes them one.
func allMaps(n int) api.Auto {
	return of(3, n, func(s, l int) int {
		switch {
		case l == 0:
			return (s + 1) % n
		case l == 1 && s < 2 && n > 1:
			return 1 - s
		case l == 2:
			return max(s, min(1, n-1))
		}
		return s
	})
}

// turns makes all n! permutations of n points.
func turns(n int) api.Auto {
	a := allMaps(n)
	return of(2, n, func(s, l int) int { return a.Next[s*3+l] })
}

// partial makes all permutations of n points' parts: a and b as in turns, c makes the point 0 sink.
func partial(n int) api.Auto {
	a := allMaps(n)
	return of(3, n+1, func(s, l int) int {
		switch {
		case s == n || s == 0 && l == 2:
			return n
		case l == 2:
			return s
		}
		return a.Next[s*3+l]
	})
}

// mirrored turns n points, and mirrors them.
func mirrored(n int) api.Auto {
	return of(2, n, func(s, l int) int {
		if l == 0 {
			return (s + 1) % n
		}
		return (n - s) % n
	})
}

// rising has a letter for each point but the last one, which takes it to the next one.
func rising(n int) api.Auto {
	return of(n-1, n, func(s, l int) int {
		if s == l {
			return s + 1
		}
		return s
	})
}

// seen has a state for each set of letters, as bits: those that were met.
func seen(k int) api.Auto {
	return of(k, 1<<k, func(s, l int) int { return s | 1<<l })
}

// around is the automaton of (abc..)*: each letter leads from one state on, and to the last one else.
func around(k int) api.Auto {
	return of(k, k+1, func(s, l int) int {
		if s == l {
			return (s + 1) % k
		}
		return k
	})
}

// bothEnds tells the first letter and the last one.
func bothEnds(k int) api.Auto {
	return of(k, 1+k*k, func(s, l int) int {
		if s == 0 {
			return 1 + l*k + l
		}
		return 1 + (s-1)/k*k + l
	})
}
