package match_test

import "eggbox/api"

// language is a set of words that are not longer than the longest one of those that are asked about.
type language map[string]bool

// language is the document's section 'What an expression means', word for word, of the words that are asked about: all up to some length. The tests hold package match against it.
func (p plain) language(asked []string) language {
	var parts []language
	for _, part := range p.parts {
		parts = append(parts, part.language(asked))
	}
	out := language{}
	for _, w := range asked {
		if p.means(w, asked, parts) {
			out[w] = true
		}
	}
	return out
}

// means is whether a word is of the language of the root with parts of these languages.
func (p plain) means(w string, asked []string, parts []language) bool {
	switch p.node.Kind {
	case api.None:
		return false
	case api.Empty:
		return w == ""
	case api.Letter:
		return w == string([]byte{p.node.Sign})
	case api.Any:
		return len(w) == 1
	case api.Union:
		return parts[0][w] || parts[1][w]
	case api.Inter:
		return parts[0][w] && parts[1][w]
	case api.Not:
		return !parts[0][w]
	case api.Star:
		return w == "" || parts[0].makes(w)
	}
	for cut := range len(w) + 1 {
		if parts[0][w[:cut]] && parts[1][w[cut:]] {
			return true
		}
	}
	return false
}

// makes is whether a word can be cut, at some of its places or at none, into words of the language. A word that is not empty needs no empty one among them.
func (l language) makes(w string) bool {
	for cuts := range 1 << max(0, len(w)-1) {
		if l.hasAll(cut(w, cuts)) {
			return true
		}
	}
	return false
}

// cut is the word cut ahead of its place i + 1 for each bit i of a number.
func cut(w string, cuts int) []string {
	var out []string
	from := 0
	for i := 1; i < len(w); i++ {
		if cuts>>(i-1)&1 == 1 {
			out = append(out, w[from:i])
			from = i
		}
	}
	return append(out, w[from:])
}

func (l language) hasAll(words []string) bool {
	for _, w := range words {
		if !l[w] {
			return false
		}
	}
	return true
}
