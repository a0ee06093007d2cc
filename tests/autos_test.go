package tests_test

import (
	"slices"

	"eggbox/api"
)

// pairs is the automaton of (ab)*, of which the chapter's examples are.
func pairs() api.Auto {
	return api.Auto{Letters: 2, Next: []int{1, 2, 2, 0, 2, 2}, Accept: []bool{true, false, false}}
}

// of is the automaton of k letters and n states where the letter l leads from s to to(s, l).
func of(k, n int, to func(s, l int) int) api.Auto {
	out := api.Auto{Letters: k}
	for s := range n {
		for l := range k {
			out.Next = append(out.Next, to(s, l))
		}
		out.Accept = append(out.Accept, s%3 == 0)
	}
	return out
}

// accepting is the automaton with other states accepted.
func accepting(a api.Auto, is func(s int) bool) api.Auto {
	out := api.Auto{Letters: a.Letters, Next: slices.Clone(a.Next)}
	for s := range a.Accept {
		out.Accept = append(out.Accept, is(s))
	}
	return out
}

// atFirst and atLast accept that one state alone.
func atFirst(a api.Auto) api.Auto { return accepting(a, func(s int) bool { return s == 0 }) }

func atLast(a api.Auto) api.Auto {
	return accepting(a, func(s int) bool { return s == len(a.Accept)-1 })
}

// not accepts what a does not.
func not(a api.Auto) api.Auto { return accepting(a, func(s int) bool { return !a.Accept[s] }) }

// still is where each letter stays.
func still(k, n int) api.Auto { return of(k, n, func(s, l int) int { return s }) }

// part is a tail of so many states that leads into a ring of so many: one letter (or each, if it is below 0) goes along, the others stay.
type part struct{ letter, tail, ring int }

func (p part) auto(k int) api.Auto {
	n := p.tail + p.ring
	return of(k, n, func(s, l int) int {
		switch {
		case p.letter >= 0 && p.letter != l:
			return s
		case s == n-1:
			return p.tail
		}
		return s + 1
	})
}

// beside has the parts one beside the other: what is not of the first one is not met.
func beside(k int, parts ...part) api.Auto {
	var out api.Auto
	for _, p := range parts {
		out = joined(out, p.auto(k))
	}
	return out
}

// joined is a with the states of b behind its own.
func joined(a, b api.Auto) api.Auto {
	out := api.Auto{Letters: b.Letters, Next: slices.Clone(a.Next), Accept: slices.Concat(a.Accept, b.Accept)}
	for _, s := range b.Next {
		out.Next = append(out.Next, s+len(a.Accept))
	}
	return out
}

// together has a state for each pair of states, and a's letters and then b's, each of which goes along in its own one of the two; accepted is what both accept.
func together(a, b api.Auto) api.Auto {
	n, m := len(a.Accept), len(b.Accept)
	out := of(a.Letters+b.Letters, n*m, func(s, l int) int {
		if l < a.Letters {
			return a.Next[s/m*a.Letters+l]*m + s%m
		}
		return s/m*m + b.Next[s%m*b.Letters+l-a.Letters]
	})
	return accepting(out, func(s int) bool { return a.Accept[s/m] && b.Accept[s%m] })
}

// powers has one letter and elements a^0 to a^(n-1), n being tail + 504.
func powers(tail int) api.Auto {
	return beside(1, part{0, tail, 7}, part{0, 0, 8}, part{0, 0, 9})
}

// allMaps makes all n^n maps of n points: a turns all, b exchanges two, c makes them one.
func allMaps(n int) api.Auto {
	return of(3, n, func(s, l int) int {
		switch {
		case l == 0:
			return (s + 1) % n
		case l == 1 && s < 2 && n > 1:
			return 1 - s
		case l == 2:
			return max(s, min(1, n-1))
		}
		return s
	})
}

// turns makes all n! permutations of n points.
func turns(n int) api.Auto {
	a := allMaps(n)
	return of(2, n, func(s, l int) int { return a.Next[s*3+l] })
}

// partial makes all permutations of n points' parts: a and b as in turns, c makes the point 0 sink.
func partial(n int) api.Auto {
	a := allMaps(n)
	return of(3, n+1, func(s, l int) int {
		switch {
		case s == n || s == 0 && l == 2:
			return n
		case l == 2:
			return s
		}
		return a.Next[s*3+l]
	})
}

// mirrored turns n points, and mirrors them.
func mirrored(n int) api.Auto {
	return of(2, n, func(s, l int) int {
		if l == 0 {
			return (s + 1) % n
		}
		return (n - s) % n
	})
}

// rising has a letter for each point but the last one, which takes it to the next one. They make all maps that keep the points' order and take none down; the last point is accepted.
func rising(n int) api.Auto {
	return atLast(of(n-1, n, func(s, l int) int {
		if s == l {
			return s + 1
		}
		return s
	}))
}

// bending has rising's letters, and as many that take a point to the one before it: they make all maps that keep the points' order.
func bending(n int) api.Auto {
	return atLast(of(2*(n-1), n, func(s, l int) int {
		switch {
		case l < n-1 && s == l:
			return s + 1
		case l >= n-1 && s == l-(n-1)+1:
			return s - 1
		}
		return s
	}))
}

// seen has a state for each set of letters, as bits: those that were met. Accepted is the set of all.
func seen(k int) api.Auto {
	return atLast(of(k, 1<<k, func(s, l int) int { return s | 1<<l }))
}

// around is the automaton of (abc..)*, with as many letters as are said: each letter leads from one state on, and to the last one else.
func around(k int) api.Auto {
	return atFirst(of(k, k+1, func(s, l int) int {
		if s == l {
			return (s + 1) % k
		}
		return k
	}))
}

// lastLetter leads each state to that of the letter: each letter is a zero on one side.
func lastLetter(k, n int) api.Auto { return of(k, n, func(s, l int) int { return l % n }) }

// firstLetter leads from 0 to the letter's state, where all stay.
func firstLetter(k int) api.Auto {
	return of(k, k+1, func(s, l int) int {
		if s == 0 {
			return l + 1
		}
		return s
	})
}

// bothEnds tells the first letter and the last one, and leads from 0 to what the letter is.
func bothEnds(k int) api.Auto {
	return of(k, 1+k*k, func(s, l int) int {
		if s == 0 {
			return 1 + l*k + l
		}
		return 1 + (s-1)/k*k + l
	})
}

// ending is of one word: a letter goes on, the others sink.
func ending(k, n int) api.Auto {
	out := of(k, n, func(s, l int) int {
		switch {
		case s == n-1:
			return s
		case s%k == l:
			return s + 1
		}
		return n - 1
	})
	return accepting(out, func(s int) bool { return s == n-2 })
}

// doubled has each state two times; each letter leads from the first of two to the second one of those to which it led, and from the second one to the first one. They have one language.
func doubled(a api.Auto) api.Auto {
	n := len(a.Accept)
	out := of(a.Letters, 2*n, func(s, l int) int { return a.Next[s%n*a.Letters+l] + n - s/n*n })
	return accepting(out, func(s int) bool { return a.Accept[s%n] })
}

// late has one more state ahead, from which each letter leads to where it leads from 0.
func late(a api.Auto) api.Auto {
	k := a.Letters
	out := of(k, len(a.Accept)+1, func(s, l int) int { return a.Next[max(0, s-1)*k+l] + 1 })
	return accepting(out, func(s int) bool { return a.Accept[max(0, s-1)] })
}

// counters has a ring of one of these sizes for each letter, and a state for each choice of places in them: a group that commutes.
func counters(sizes ...int) api.Auto {
	out := part{0, 0, sizes[0]}.auto(1)
	for _, n := range sizes[1:] {
		out = together(out, part{0, 0, n}.auto(1))
	}
	return atFirst(out)
}

// halved exchanges, in 2^n points, two that are next to each other, two pairs, two fours, and so on: the greatest group of permutations whose order is a power of 2.
func halved(n int) api.Auto {
	return of(n, 1<<n, func(s, l int) int {
		if s < 2<<l {
			return s ^ 1<<l
		}
		return s
	})
}

// threes turns three points, another three for each letter: all even permutations of n points.
func threes(n int) api.Auto {
	return of(n-2, n, func(s, l int) int {
		switch s {
		case 0:
			return 1
		case 1:
			return l + 2
		case l + 2:
			return 0
		}
		return s
	})
}

// many has a state for each number of letters up to n, whichever letters they are; accepted is n and more.
func many(k, n int) api.Auto { return atLast(part{-1, n, 1}.auto(k)) }

// from is the automaton with its states numbered anew, that one being the first of them.
func from(a api.Auto, first int) api.Auto {
	n := len(a.Accept)
	out := of(a.Letters, n, func(s, l int) int { return (a.Next[(s+first)%n*a.Letters+l] + n - first) % n })
	return accepting(out, func(s int) bool { return a.Accept[(s+first)%n] })
}
