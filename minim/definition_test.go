package minim_test

import (
	"slices"

	"eggbox/api"
)

// leads is where a word leads, letter by letter.
func leads(a api.Auto, s int, w string) int {
	for i := range len(w) {
		s = a.Next[s*a.Letters+int(w[i]-'a')]
	}
	return s
}

// says: is the word of the state's language?
func says(a api.Auto, s int, w string) bool { return a.Accept[leads(a, s, w)] }

// said is which of the words are of the state's language, one letter for each.
func said(a api.Auto, s int, words []string) string {
	out := make([]byte, len(words))
	for i, w := range words {
		out[i] = 'n'
		if says(a, s, w) {
			out[i] = 'y'
		}
	}
	return string(out)
}

// plainLevel is, for each state, the least one that accepts the same words of at most n letters, asked word by word.
func plainLevel(a api.Auto, n int) []int {
	all := words(a.Letters, n)
	var rows []string
	for s := range a.Accept {
		rows = append(rows, said(a, s, all))
	}
	out := make([]int, len(rows))
	for s := range rows {
		out[s] = slices.Index(rows, rows[s])
	}
	return out
}

// never is the length of a word that is not there.
const never = -1

// lengths is, for each two states, how many letters the shortest word has that is accepted from just one of them; never, if none is. Such a word of one letter more is a letter that leads to two states with such a word.
func lengths(a api.Auto) [][]int {
	out := make([][]int, len(a.Accept))
	for s := range out {
		out[s] = make([]int, len(a.Accept))
		for t := range out[s] {
			out[s][t] = never
			if a.Accept[s] != a.Accept[t] {
				out[s][t] = 0
			}
		}
	}
	for n := 1; lengthen(a, out, n); n++ {
	}
	return out
}

// lengthen enters the pairs of length n; false, if there are none: then there are none of more letters.
func lengthen(a api.Auto, lengths [][]int, n int) bool {
	more := false
	for s := range lengths {
		for t := range lengths[s] {
			if _, leads := firstTo(a, lengths, s, t, n-1); leads && lengths[s][t] == never {
				lengths[s][t] = n
				more = true
			}
		}
	}
	return more
}

// firstTo is the first letter that leads from two states to a pair of that length, and whether there is one.
func firstTo(a api.Auto, lengths [][]int, s, t, n int) (int, bool) {
	for l := range a.Letters {
		if lengths[a.Next[s*a.Letters+l]][a.Next[t*a.Letters+l]] == n {
			return l, true
		}
	}
	return 0, false
}

// plainDiffer goes from letter to letter by the lengths.
func plainDiffer(a api.Auto, lengths [][]int, s, t int) (string, bool) {
	if lengths[s][t] == never {
		return "", false
	}
	out := ""
	for n := lengths[s][t] - 1; n >= 0; n-- {
		l, _ := firstTo(a, lengths, s, t, n)
		out += string(rune('a' + l))
		s, t = a.Next[s*a.Letters+l], a.Next[t*a.Letters+l]
	}
	return out, true
}

// levelBy is the level n by the lengths; the level never is that of all words.
func levelBy(lengths [][]int, n int) []int {
	out := make([]int, len(lengths))
	for s := range lengths {
		out[s] = slices.IndexFunc(lengths[s], func(far int) bool { return far == never || n != never && far > n })
	}
	return out
}

// led is a word and the class of the state to which it leads from 0.
type led struct {
	word  string
	class int
}

// leastWords are the classes that are met from 0, each with its least word, in the order of these words. A least word's beginning is one, too, so that no other words are gone on with.
func leastWords(a api.Auto, classes []int) []led {
	out := []led{{"", classes[0]}}
	for from := 0; from < len(out); {
		row := out[from:]
		from = len(out)
		var longer []led
		for _, p := range row {
			for l := range a.Letters {
				w := p.word + string(rune('a'+l))
				longer = append(longer, led{w, classes[leads(a, 0, w)]})
			}
		}
		slices.SortFunc(longer, func(p, q led) int { return slices.Compare([]byte(p.word), []byte(q.word)) })
		for _, p := range longer {
			if placeOf(out, p.class) < 0 {
				out = append(out, p)
			}
		}
	}
	return out
}

// placeOf is where a class stands, -1 if nowhere.
func placeOf(list []led, class int) int {
	return slices.IndexFunc(list, func(p led) bool { return p.class == class })
}

// plainMinimal has the languages of a's states that are met, in the order of their least words.
func plainMinimal(a api.Auto) (api.Auto, []int) {
	classes := levelBy(lengths(a), never)
	met := leastWords(a, classes)
	out := api.Auto{Letters: a.Letters}
	for _, p := range met {
		for l := range a.Letters {
			out.Next = append(out.Next, placeOf(met, classes[leads(a, 0, p.word+string(rune('a'+l)))]))
		}
		out.Accept = append(out.Accept, says(a, 0, p.word))
	}
	var to []int
	for s := range a.Accept {
		to = append(to, placeOf(met, classes[s]))
	}
	return out, to
}
