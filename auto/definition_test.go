package auto_test

import (
	"slices"
	"strconv"
	"strings"

	"eggbox/api"
)

// leads is where a word leads, letter by letter.
func leads(a api.Auto, s int, w string) int {
	for i := range len(w) {
		s = a.Next[s*a.Letters+int(w[i]-'a')]
	}
	return s
}

// takes: does the word lead from 0 to an accepted state?
func takes(a api.Auto, w string) bool { return a.Accept[leads(a, 0, w)] }

// turned is a word from behind.
func turned(w string) string {
	out := []byte(w)
	slices.Reverse(out)
	return string(out)
}

// takesConcat: is the word u v, with u of a's and v of b's language?
func takesConcat(a, b api.Auto, w string) bool {
	for i := range len(w) + 1 {
		if takes(a, w[:i]) && takes(b, w[i:]) {
			return true
		}
	}
	return false
}

// takesStar: is the word empty, or a word of a's language that is not empty with such words behind it?
func takesStar(a api.Auto, w string) bool {
	if w == "" {
		return true
	}
	for i := 1; i <= len(w); i++ {
		if takes(a, w[:i]) && takesStar(a, w[i:]) {
			return true
		}
	}
	return false
}

// machine is an automaton whose states are texts of whatever meaning.
type machine struct {
	letters  int
	first    string
	next     func(state string, letter int) string
	accepted func(state string) bool
}

// led is a word and the state to which it leads.
type led struct{ word, state string }

// on are the words of one letter more.
func (m machine) on(row []led) []led {
	var out []led
	for _, p := range row {
		for l := range m.letters {
			out = append(out, led{p.word + string(rune('a'+l)), m.next(p.state, l)})
		}
	}
	slices.SortFunc(out, func(p, q led) int { return strings.Compare(p.word, q.word) })
	return out
}

// inOrder has the machine's states numbered by the least words that lead to them, which are found length by length. A least word's beginning is the least word of a state, so no others are gone on with.
func (m machine) inOrder() api.Auto {
	met := []led{{"", m.first}}
	numbers := map[string]int{m.first: 0}
	for row := met; len(row) > 0; {
		longer := m.on(row)
		row = nil
		for _, p := range longer {
			if _, known := numbers[p.state]; !known {
				numbers[p.state] = len(met)
				met = append(met, p)
				row = append(row, p)
			}
		}
	}
	out := api.Auto{Letters: m.letters}
	for _, p := range met {
		for l := range m.letters {
			out.Next = append(out.Next, numbers[m.next(p.state, l)])
		}
		out.Accept = append(out.Accept, m.accepted(p.state))
	}
	return out
}

// isInOrder holds an automaton to the definition by all words that may be a state's least one: they have fewer letters than there are states.
func isInOrder(a api.Auto) bool {
	met := 0
	for _, w := range words(a.Letters, len(a.Accept)-1) {
		s := leads(a, 0, w)
		if s > met {
			return false
		}
		if s == met {
			met++
		}
	}
	return met == len(a.Accept)
}

// text and number turn a state to a text and back; setText and list do so with a set of states.
func text(s int) string { return strconv.Itoa(s) }

func number(s string) int {
	out, _ := strconv.Atoi(s)
	return out
}

func list(set string) []int {
	var out []int
	for _, s := range strings.Fields(set) {
		out = append(out, number(s))
	}
	return out
}

func setText(l []int) string {
	slices.Sort(l)
	out := ""
	for _, s := range slices.Compact(l) {
		out += text(s) + " "
	}
	return out
}

// states is the machine of an automaton's own states.
func states(a api.Auto, first int, accepted func(s int) bool) machine {
	return machine{a.Letters, text(first),
		func(s string, l int) string { return text(a.Next[number(s)*a.Letters+l]) },
		func(s string) bool { return accepted(number(s)) }}
}

func plainReach(a api.Auto) api.Auto {
	return states(a, 0, func(s int) bool { return a.Accept[s] }).inOrder()
}

func plainNot(a api.Auto) api.Auto {
	return states(a, 0, func(s int) bool { return !a.Accept[s] }).inOrder()
}

func plainAhead(a api.Auto, w string) api.Auto {
	return states(a, leads(a, 0, w), func(s int) bool { return a.Accept[s] }).inOrder()
}

func plainBehind(a api.Auto, w string) api.Auto {
	return states(a, 0, func(s int) bool { return a.Accept[leads(a, s, w)] }).inOrder()
}

// plainWord has the beginnings of w as its states, and one more.
func plainWord(k int, w string) api.Auto {
	return machine{k, "",
		func(s string, l int) string {
			if longer := s + string(rune('a'+l)); strings.HasPrefix(w, longer) {
				return longer
			}
			return "none"
		},
		func(s string) bool { return s == w }}.inOrder()
}

func plainPairs(a, b api.Auto, accepted func(first, second bool) bool) api.Auto {
	return machine{a.Letters, "0 0",
		func(s string, l int) string {
			p := list(s)
			return text(a.Next[p[0]*a.Letters+l]) + " " + text(b.Next[p[1]*a.Letters+l])
		},
		func(s string) bool { return accepted(a.Accept[list(s)[0]], b.Accept[list(s)[1]]) }}.inOrder()
}

// accepted: is an accepted state in the set?
func accepted(a api.Auto, set string) bool {
	return slices.ContainsFunc(list(set), func(s int) bool { return a.Accept[s] })
}

// image is the set of all states to which the letter leads from a set.
func image(a api.Auto, set string, l int) string {
	var out []int
	for _, s := range list(set) {
		out = append(out, a.Next[s*a.Letters+l])
	}
	return setText(out)
}

func plainReverse(a api.Auto) api.Auto {
	var first []int
	for s := range a.Accept {
		if a.Accept[s] {
			first = append(first, s)
		}
	}
	return machine{a.Letters, setText(first),
		func(set string, l int) string {
			var out []int
			for s := range a.Accept {
				if slices.Contains(list(set), a.Next[s*a.Letters+l]) {
					out = append(out, s)
				}
			}
			return setText(out)
		},
		func(set string) bool { return slices.Contains(list(set), 0) }}.inOrder()
}

func plainConcat(a, b api.Auto) api.Auto {
	begun := func(s int) []int {
		if a.Accept[s] {
			return []int{0}
		}
		return nil
	}
	return machine{a.Letters, "0:" + setText(begun(0)),
		func(p string, l int) string {
			s, x, _ := strings.Cut(p, ":")
			t := a.Next[number(s)*a.Letters+l]
			return text(t) + ":" + setText(append(list(image(b, x, l)), begun(t)...))
		},
		func(p string) bool {
			_, x, _ := strings.Cut(p, ":")
			return accepted(b, x)
		}}.inOrder()
}

func plainStar(a api.Auto) api.Auto {
	return machine{a.Letters, "",
		func(x string, l int) string {
			if x == "" {
				x = "0"
			}
			y := image(a, x, l)
			if accepted(a, y) {
				y = setText(append(list(y), 0))
			}
			return y
		},
		func(x string) bool { return x == "" || accepted(a, x) }}.inOrder()
}
