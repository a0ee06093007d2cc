package monoid_test

import (
	"slices"
	"strings"

	"eggbox/api"
)

// leads is where each state is led by a word, letter by letter.
func leads(a api.Auto, w string) []int {
	out := make([]int, len(a.Accept))
	for s := range out {
		out[s] = s
		for i := range len(w) {
			out[s] = a.Next[out[s]*a.Letters+int(w[i]-'a')]
		}
	}
	return out
}

// text is a list of states as a key.
func text(images []int) string {
	out := make([]byte, len(images))
	for i, to := range images {
		out[i] = byte(to)
	}
	return string(out)
}

// model is a monoid by the chapter's definition: its least words in order, and the numbers of what they do.
type model struct {
	a       api.Auto
	words   []string
	numbers map[string]int
}

// add takes in a word that stands behind all words so far, and tells whether it is the least that does what it does.
func (m *model) add(w string) bool {
	key := text(leads(m.a, w))
	if _, there := m.numbers[key]; there {
		return false
	}
	m.numbers[key] = len(m.words)
	m.words = append(m.words, w)
	return true
}

func (m *model) element(w string) int {
	number, there := m.numbers[text(leads(m.a, w))]
	if !there {
		return -1
	}
	return number
}

func (m *model) isLeast(w string) bool { return slices.Contains(m.words, w) }

// product and power are those of words.
func (m *model) product(i, j int) int { return m.element(m.words[i] + m.words[j]) }

func (m *model) power(i, n int) int { return m.element(strings.Repeat(m.words[i], n)) }

// allWords are all words of so many letters over k, in order.
func allWords(k, letters int) []string {
	out := []string{""}
	for range letters {
		var more []string
		for _, w := range out {
			for l := range k {
				more = append(more, w+string(rune('a'+l)))
			}
		}
		out = more
	}
	return out
}

// byAllWords goes through all words, length by length, until a length has no new element: then no greater one has, either. False, if there are too many words to go through.
func byAllWords(a api.Auto) (*model, bool) {
	out := &model{a: a, numbers: map[string]int{}}
	count := 1
	for n := 0; ; n++ {
		fresh := false
		for _, w := range allWords(a.Letters, n) {
			fresh = out.add(w) || fresh
		}
		if !fresh {
			return out, true
		}
		if count *= a.Letters; count > 3000 {
			return nil, false
		}
	}
}

// byBeginnings is the same, without words that have a beginning that is no least word. False, if there are more than MaxElems elements.
func byBeginnings(a api.Auto) (*model, bool) {
	out := &model{a: a, numbers: map[string]int{}}
	out.add("")
	for at := 0; at < len(out.words); at++ {
		for l := range a.Letters {
			out.add(out.words[at] + string(rune('a'+l)))
			if len(out.words) > api.MaxElems {
				return nil, false
			}
		}
	}
	return out, true
}

// accepts tells whether a word leads from 0 to an accepted state.
func accepts(a api.Auto, w string) bool {
	s := 0
	for i := range len(w) {
		s = a.Next[s*a.Letters+int(w[i]-'a')]
	}
	return a.Accept[s]
}

// packed is the transformation of a list of images: an image is worth so many times 64, by the places behind it in its word.
func packed(images []int) api.Trans {
	out := api.Trans{N: len(images)}
	for i, to := range images {
		worth := uint64(to)
		for range i % 10 {
			worth *= 64
		}
		out.Words[i/10] += worth
	}
	return out
}

// zero is the element that each product with it is.
func (m *model) zero() (int, bool) {
	for z := range m.words {
		is := true
		for x := range m.words {
			is = is && m.product(z, x) == z && m.product(x, z) == z
		}
		if is {
			return z, true
		}
	}
	return 0, false
}

// rules are those of the chapter, of all words with one letter more than a least word may have.
func (m *model) rules(words []string) (left, right []string) {
	for _, w := range words {
		if w == "" || !m.isLeast(w[:len(w)-1]) || m.isLeast(w) {
			continue
		}
		if rest := w[1:]; rest == "" || m.isLeast(rest) {
			left = append(left, w)
			right = append(right, m.words[m.element(w)])
		}
	}
	return left, right
}

// every is all words of at most so many letters, in order.
func every(k, letters int) []string {
	var out []string
	for n := range letters + 1 {
		out = append(out, allWords(k, n)...)
	}
	return out
}

// longest is how many letters the longest least word has.
func (m *model) longest() int { return len(m.words[len(m.words)-1]) }
