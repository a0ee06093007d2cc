package equal

import (
	"slices"

	"eggbox/api"
)

const firstLetter = 'a'

// pair is a state of each of two automata, to which the same word leads. There may be 2^24 of them: 16 bits hold a state.
type pair struct{ first, second uint16 }

// step is where the letter of that number leads from a pair.
func step(a, b api.Auto, p pair, letter int) pair {
	return pair{uint16(a.Next[int(p.first)*a.Letters+letter]), uint16(b.Next[int(p.second)*b.Letters+letter])}
}

// meeting is a pair in the queue. Its word is that of the meeting at the place by / Letters, with the letter by % Letters behind it.
type meeting struct {
	at pair
	by uint32
}

// least is the least word that shows what is asked, by whether the states to which it leads are accepted, and whether there is one. Only from pairs that are fresh, when they are met, the search goes on.
func least(a, b api.Auto, fresh func(p pair) bool, shows func(first, second bool) bool) (string, bool) {
	var queue []meeting
	// Pairs are met in the order of their least words, so the first one that shows it has the least word of all.
	meet := func(p pair, by int) bool {
		if !fresh(p) {
			return false
		}
		queue = append(queue, meeting{p, uint32(by)})
		return shows(a.Accept[p.first], b.Accept[p.second])
	}
	if meet(pair{}, 0) {
		return "", true
	}
	for from := 0; from < len(queue); {
		// A row has the pairs whose words have one length. Its room ends with it: what is met from it stands in the next one.
		row := queue[from:len(queue):len(queue)]
		for i, m := range row {
			for letter := range a.Letters {
				if meet(step(a, b, m.at, letter), (from+i)*a.Letters+letter) {
					return lastWord(a.Letters, queue), true
				}
			}
		}
		from += len(row)
	}
	return "", false
}

// lastWord is the word of the queue's last meeting, whose letters are found from the last one on.
func lastWord(letters int, queue []meeting) string {
	var out []byte
	for at := len(queue) - 1; at != 0; {
		by := int(queue[at].by)
		out = append(out, firstLetter+byte(by%letters))
		at = by / letters
	}
	slices.Reverse(out)
	return string(out)
}
