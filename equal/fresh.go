package equal

import "eggbox/api"

// parted answers a function that tells whether the two states of a pair did not hang together so far, and joins them. For a word that tells two languages apart, no others need be gone on from: what tells apart two states that hang together by pairs ahead does so with the states of one of those pairs, behind a lesser word.
func parted(a, b api.Auto) func(p pair) bool {
	join := trees(len(a.Accept) + len(b.Accept))
	return func(p pair) bool { return join(int(p.first), len(a.Accept)+int(p.second)) }
}

// trees answers a function that joins the trees in which two of so many states stand; false, if that is one tree already. At the beginning each state is a tree.
func trees(states int) func(s, t int) bool {
	above := make([]int, states)
	for s := range above {
		above[s] = s
	}
	top := func(s int) int {
		for above[s] != s {
			// The way up is halved, so that it stays short.
			above[s] = above[above[s]]
			s = above[s]
		}
		return s
	}
	return func(s, t int) bool {
		s, t = top(s), top(t)
		above[s] = t
		return s != t
	}
}

const side = 64

// tile has side by side pairs, a bit for each that was met.
type tile [side]uint64

// unmet answers a function that tells whether a pair was not met so far, and marks it. The map's keys are pairs of where tiles begin, counted in tiles: with one key for each of 2^24 pairs the search would take five to ten times as long.
func unmet() func(p pair) bool {
	places := map[pair]int{}
	var tiles []tile
	return func(p pair) bool {
		corner := pair{p.first / side, p.second / side}
		place, known := places[corner]
		if !known {
			place = len(tiles)
			places[corner] = place
			tiles = append(tiles, tile{})
		}
		line, bit := p.first%side, uint64(1)<<(p.second%side)
		met := tiles[place][line]
		tiles[place][line] = met | bit
		return met&bit == 0
	}
}
