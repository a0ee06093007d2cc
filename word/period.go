package word

import (
	"strings"

	"eggbox/api"
)

// Periods: all periods of w, rising.
func Periods(k int, w string) ([]int, api.Errno) {
	if e := Check(k, w); e != api.OK {
		return nil, e
	}
	isPeriod := periodOf(w)
	var out []int
	for i := range len(w) {
		if isPeriod(i + 1) {
			out = append(out, i+1)
		}
	}
	return out, api.OK
}

// Root: the shortest word of which w is a power, and which power.
func Root(k int, w string) (root string, times int, e api.Errno) {
	if e = Check(k, w); e != api.OK {
		return "", 0, e
	}
	isPeriod := periodOf(w)
	for i := range len(w) {
		size := i + 1
		if len(w)%size == 0 && isPeriod(size) {
			return strings.Clone(w[:size]), len(w) / size, api.OK
		}
	}
	return "", 0, api.OK
}

// periodOf answers a closure that tells of each p from 1 to w's length whether it is a period of w. The overlaps are
// found once, so that asking it of all p takes time in proportion to w's length.
func periodOf(w string) func(p int) bool {
	overlap := overlaps(w)
	return func(p int) bool { return p+overlap[p] == len(w) }
}

// overlaps tells for each place of w, the end included, how many letters from there on are the same as from w's
// beginning on.
func overlaps(w string) []int {
	overlap := make([]int, len(w)+1)
	// w[from:to] is the stretch that reaches furthest of those known to repeat w's beginning.
	from, to := 0, 0
	for place := range len(w) {
		n := 0
		if place < to {
			n = min(overlap[place-from], to-place)
		}
		for place+n < len(w) && w[n] == w[place+n] {
			n++
		}
		overlap[place] = n
		// Place 0 repeats all of w, which tells nothing of the places behind it.
		if place > 0 && place+n > to {
			from, to = place, place+n
		}
	}
	return overlap
}
