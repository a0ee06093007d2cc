package dfa

import (
	"eggbox/api"
	"eggbox/deriv"
	"eggbox/norm"
	"eggbox/tree"
)

const firstLetter = 'a'

// found: the derivatives so far, in the order in which they were met.
type found struct {
	trees   [][]api.Node
	words   []string       // by which they were met
	numbers map[string]int // their places on the list, by their texts
	next    []int          // of each tree that was gone through, letter by letter, the place of the derivative
}

// walk: all derivatives of a tree. They are gone through as they were met, and the letters from a on: so each one is met by its least word first.
func walk(k int, t []api.Node) (found, api.Errno) {
	if e := tree.Check(k, t); e != api.OK {
		return found{}, e
	}
	n, _ := norm.Normal(t)
	f := found{numbers: map[string]int{}}
	f.put(n, "")
	tooMany := false
trees:
	for at := 0; at < len(f.trees); at++ {
		for l := range k {
			letter := firstLetter + byte(l)
			d, e := deriv.Deriv(f.trees[at], letter)
			if e != api.OK || !f.lead(d, f.words[at]+string(rune(letter))) {
				tooMany = true
				break trees
			}
		}
	}
	if tooMany {
		return found{}, api.ErrStates
	}
	return f, api.OK
}

// lead notes where the next letter leads; false, if that tree would be one too many.
func (f *found) lead(d []api.Node, word string) bool {
	number, known := f.numbers[text(d)]
	if !known {
		if len(f.trees) == api.MaxDerivs {
			return false
		}
		number = f.put(d, word)
	}
	f.next = append(f.next, number)
	return true
}

// put adds a tree that is not there so far, and answers its place.
func (f *found) put(d []api.Node, word string) int {
	number := len(f.trees)
	f.numbers[text(d)] = number
	f.trees = append(f.trees, d)
	f.words = append(f.words, word)
	return number
}

// text: a tree as a string, a byte for each node: no kind is as great as a letter.
func text(t []api.Node) string {
	out := make([]byte, len(t))
	for i, n := range t {
		out[i] = byte(n.Kind)
		if n.Kind == api.Letter {
			out[i] = n.Sign
		}
	}
	return string(out)
}
