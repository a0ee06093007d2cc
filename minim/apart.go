package minim

import (
	"slices"

	"eggbox/api"
)

const firstLetter = 'a'

// meeting: two states to which one word leads from the two that are asked of; that word is the one of the meeting at the place from, with one more letter.
type meeting struct {
	first, second int
	from          int
	letter        byte
}

// apart is the least word that is accepted from just one of two states, and whether there is one. The meetings are gone through by their words.
func apart(a api.Auto, s, t int) (string, bool) {
	var queue []meeting
	above := alone(len(a.Accept))
	// States that hang together by meetings ahead are not met again: a word that tells them apart does so with two states of one of those meetings, behind a lesser word.
	meet := func(m meeting) {
		if join(above, m.first, m.second) {
			queue = append(queue, m)
		}
	}
	meet(meeting{first: s, second: t})
	for at := 0; at < len(queue); at++ {
		m := queue[at]
		if a.Accept[m.first] != a.Accept[m.second] {
			return wordOf(queue, at), true
		}
		for letter := range a.Letters {
			meet(meeting{step(a, m.first, letter), step(a, m.second, letter), at, firstLetter + byte(letter)})
		}
	}
	return "", false
}

// wordOf is the word that leads to a meeting, whose letters are found from the last one on.
func wordOf(queue []meeting, at int) string {
	var out []byte
	for ; at != 0; at = queue[at].from {
		out = append(out, queue[at].letter)
	}
	slices.Reverse(out)
	return string(out)
}

// alone is a forest where each state is above itself: none hang together.
func alone(states int) []int {
	out := make([]int, states)
	for s := range out {
		out[s] = s
	}
	return out
}

// join makes two states hang together; false, if they do already.
func join(above []int, s, t int) bool {
	s, t = top(above, s), top(above, t)
	above[s] = t
	return s != t
}

// top is what stands above a state and all that hang together with it. The way up is halved, so that it stays short.
func top(above []int, s int) int {
	for above[s] != s {
		above[s] = above[above[s]]
		s = above[s]
	}
	return s
}
