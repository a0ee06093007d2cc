package groups_test

import (
	"slices"

	"eggbox/api"
)

// pairs is the automaton of (ab)*, of which the chapter's example is.
func pairs() api.Auto {
	return api.Auto{Letters: 2, Next: []int{1, 2, 2, 0, 2, 2}, Accept: []bool{true, false, false}}
}

// even is the automaton of (aa)*, of which the chapter's other example is.
func even() api.Auto {
	return api.Auto{Letters: 1, Next: []int{1, 0}, Accept: []bool{true, false}}
}

// of is the automaton of k letters and n states where the letter l leads from s to to(s, l).
func of(k, n int, to func(s, l int) int) api.Auto {
	out := api.Auto{Letters: k}
	for s := range n {
		for l := range k {
			out.Next = append(out.Next, to(s, l))
		}
		out.Accept = append(out.Accept, s%3 == 0)
	}
	return out
}

// still is where each letter stays.
func still(k, n int) api.Auto { return of(k, n, func(s, l int) int { return s }) }

// part is a tail of so many states that leads into a ring of so many: one letter (or each, if it is below 0) goes along, the others stay.
type part struct{ letter, tail, ring int }

// beside has the parts one beside the other.
func beside(k int, parts ...part) api.Auto {
	var out api.Auto
	for _, p := range parts {
		n := p.tail + p.ring
		out = joined(out, of(k, n, func(s, l int) int {
			switch {
			case p.letter >= 0 && p.letter != l:
				return s
			case s == n-1:
				return p.tail
			}
			return s + 1
		}))
	}
	return out
}

// joined is a with the states of b behind its own.
func joined(a, b api.Auto) api.Auto {
	out := api.Auto{Letters: b.Letters, Next: slices.Clone(a.Next), Accept: slices.Concat(a.Accept, b.Accept)}
	for _, s := range b.Next {
		out.Next = append(out.Next, s+len(a.Accept))
	}
	return out
}

// times has a's letters and then b's, each of which goes along in its own part alone: the monoid's elements are pairs of theirs.
func times(a, b api.Auto) api.Auto {
	n := len(a.Accept)
	return of(a.Letters+b.Letters, n+len(b.Accept), func(s, l int) int {
		switch {
		case s < n && l < a.Letters:
			return a.Next[s*a.Letters+l]
		case s >= n && l >= a.Letters:
			return n + b.Next[(s-n)*b.Letters+l-a.Letters]
		}
		return s
	})
}

// counters has a ring of one of these sizes for each letter: a group with the sizes' product of elements.
func counters(sizes ...int) api.Auto {
	var all []part
	for l, n := range sizes {
		all = append(all, part{l, 0, n})
	}
	return beside(len(sizes), all...)
}

// powers has one letter and elements a^0 to a^(n-1), n being tail + 504.
func powers(tail int) api.Auto {
	return beside(1, part{0, tail, 7}, part{0, 0, 8}, part{0, 0, 9})
}

// lonely has a ring of one of these sizes for each letter; what the letter finds in no ring of its own sinks. Products of two letters are the zero.
func lonely(sizes ...int) api.Auto {
	sink := 0
	for _, n := range sizes {
		sink += n
	}
	first := make([]int, len(sizes))
	for l := 1; l < len(sizes); l++ {
		first[l] = first[l-1] + sizes[l-1]
	}
	return of(len(sizes), sink+1, func(s, l int) int {
		if at := s - first[l]; at >= 0 && at < sizes[l] {
			return first[l] + (at+1)%sizes[l]
		}
		return sink
	})
}

// allMaps makes all n^n maps of n points: a turns all, b exchanges two, c makes them one.
func allMaps(n int) api.Auto {
	return of(3, n, func(s, l int) int {
		switch {
		case l == 0:
			return (s + 1) % n
		case l == 1 && s < 2 && n > 1:
			return 1 - s
		case l == 2:
			return max(s, min(1, n-1))
		}
		return s
	})
}

// turns makes all n! permutations of n points.
func turns(n int) api.Auto {
	a := allMaps(n)
	return of(2, n, func(s, l int) int { return a.Next[s*3+l] })
}

// partial makes all permutations of n points' parts: a and b as in turns, c makes the point 0 sink.
func partial(n int) api.Auto {
	a := allMaps(n)
	return of(3, n+1, func(s, l int) int {
		switch {
		case s == n || s == 0 && l == 2:
			return n
		case l == 2:
			return s
		}
		return a.Next[s*3+l]
	})
}

// crossing has two halves of n points, in which a and b make all permutations; c makes two points of the first half one and leads to the second half, from there all points to a last one. Of the elements with one c no two have a product among them.
func crossing(n int) api.Auto {
	a := allMaps(n)
	return of(3, 2*n+1, func(s, l int) int {
		switch {
		case s == 2*n || l == 2 && s >= n:
			return 2 * n
		case l == 2:
			return n + a.Next[s*3+2]
		case s >= n:
			return n + a.Next[(s-n)*3+l]
		}
		return a.Next[s*3+l]
	})
}

// around is the automaton of (abc..)*, with as many letters as are said: each letter leads from one state on, and to the last one else.
func around(k int) api.Auto {
	return of(k, k+1, func(s, l int) int {
		if s == l {
			return (s + 1) % k
		}
		return k
	})
}

// lastLetter leads each state to that of the letter: each letter is a zero on one side.
func lastLetter(k, n int) api.Auto { return of(k, n, func(s, l int) int { return l % n }) }

// firstLetter leads from 0 to the letter's state, where all stay.
func firstLetter(k int) api.Auto {
	return of(k, k+1, func(s, l int) int {
		if s == 0 {
			return l + 1
		}
		return s
	})
}

// bothEnds tells the first letter and the last one: the elements of letters are a square of rows and columns.
func bothEnds(k int) api.Auto { return joined(firstLetter(k), lastLetter(k, k)) }

// ending is of one word: a letter goes on, the others sink.
func ending(k, n int) api.Auto {
	return of(k, n, func(s, l int) int {
		switch {
		case s == n-1:
			return s
		case s%k == l:
			return s + 1
		}
		return n - 1
	})
}

// late has one more state, from which each letter leads to where it leads from 0. If a makes a group, the words that are not empty make the same one, and the identity is none of them.
func late(a api.Auto) api.Auto {
	n := len(a.Accept)
	return of(a.Letters, n+1, func(s, l int) int { return a.Next[s%n*a.Letters+l] })
}

// twice has a's states two times, and a sink. In the first ones a's letters go along, one letter more leads from each to its like, one more back; all else sinks. If a makes a group of n elements, the monoid has four times as many, the identity and the zero.
func twice(a api.Auto) api.Auto {
	n, k := len(a.Accept), a.Letters
	return of(k+2, 2*n+1, func(s, l int) int {
		switch {
		case s < n && l < k:
			return a.Next[s*k+l]
		case s < n && l == k:
			return n + s
		case s >= n && s < 2*n && l == k+1:
			return s - n
		}
		return 2 * n
	})
}

// move takes x, y to a x + b y + u, c x + d y + v.
type move struct{ a, b, c, d, u, v int }

// plane has a state for each pair of numbers below p, and the letters move them.
func plane(p int, moves ...move) api.Auto {
	return of(len(moves), p*p, func(s, l int) int {
		x, y, m := s/p, s%p, moves[l]
		return (m.a*x+m.b*y+m.u)%p*p + (m.c*x+m.d*y+m.v)%p
	})
}

// special are two moves that make all those without u and v whose a d - b c is 1.
func special() []move { return []move{{1, 1, 0, 1, 0, 0}, {1, 0, 1, 1, 0, 0}} }

// line has the numbers below p, a prime, and one more, infinite; a takes x to x + 1, b to -1/x, c, if it is there, to so many times x.
func line(p int, more ...int) api.Auto {
	return of(2+len(more), p+1, func(s, l int) int {
		switch {
		case l == 1 && s == 0:
			return p
		case l == 1 && s == p:
			return 0
		case s == p:
			return p
		case l == 0:
			return (s + 1) % p
		case l == 1:
			y := 1
			for (s*y+1)%p != 0 {
				y++
			}
			return y
		}
		return s * more[l-2] % p
	})
}

// lineOf8 has the eight elements of a field, written with three bits, and infinity; a takes x to x + 1, b to 1/x, c to so many times x as the field's elements but 0 are powers of.
func lineOf8() api.Auto {
	twofold := func(x int) int {
		if x *= 2; x > 7 {
			x ^= 11
		}
		return x
	}
	power := []int{1}
	for len(power) < 7 {
		power = append(power, twofold(power[len(power)-1]))
	}
	return of(3, 9, func(s, l int) int {
		switch {
		case l == 1 && (s == 0 || s == 8):
			return 8 - s
		case s == 8:
			return s
		case l == 0:
			return s ^ 1
		case l == 1:
			return power[(7-slices.Index(power, s))%7]
		}
		return twofold(s)
	})
}

// mirrored turns n points, and mirrors them.
func mirrored(n int) api.Auto {
	return of(2, n, func(s, l int) int {
		if l == 0 {
			return (s + 1) % n
		}
		return (n - s) % n
	})
}

// stretched takes a number below p, a prime, to the next one, and to so many times itself.
func stretched(p, by int) api.Auto {
	return of(2, p, func(s, l int) int {
		if l == 0 {
			return (s + 1) % p
		}
		return s * by % p
	})
}

// halved exchanges, in 2^n points, two that are next to each other, two pairs, two fours, and so on: the greatest group of permutations whose order is a power of 2.
func halved(n int) api.Auto {
	return of(n, 1<<n, func(s, l int) int {
		if s < 2<<l {
			return s ^ 1<<l
		}
		return s
	})
}

// threes turns three points, another three for each letter: all even permutations of n points.
func threes(n int) api.Auto {
	return of(n-2, n, func(s, l int) int {
		switch s {
		case 0:
			return 1
		case 1:
			return l + 2
		case l + 2:
			return 0
		}
		return s
	})
}

// knit has four squares of points, in which the letters a to d exchange two that are opposite (across) or all of them with those beside them (along): a across in the first square; b across in the second and the third one; c along in the second, across in the fourth one; d along in all but the second one. In this group of 256, whose derived group has 16 members, one of them, what a and d make times what b and c make, is no commutator.
func knit() api.Auto {
	const still, across, along = 0, 2, 1
	ways := [4][4]int{{across, still, still, along}, {still, across, along, still}, {still, across, still, along}, {still, still, across, along}}
	return of(4, 16, func(s, l int) int {
		way := ways[s/4][l]
		if way == across && s%2 == 1 {
			return s
		}
		return s ^ way
	})
}
