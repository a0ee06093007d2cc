package monoid

import (
	"eggbox/api"
	"eggbox/trans"
)

// way is how an element is met first: from which one, and by which letter behind its least word.
type way struct{ from, letter int }

// finding is what the search for the elements finds: they stand in the table in order.
type finding struct {
	letters int
	table   *trans.Table
	ways    []way    // one each; that of the empty word's element means nothing
	right   []uint16 // for each element, and each letter behind it, which one comes about
}

// find makes all elements of an automaton.
func find(a api.Auto) (*finding, api.Errno) {
	// What the empty word does is refused just where the automaton is: ErrAuto, then ErrStates. Behind this nothing is wrong any more but that there may be too many elements.
	one, e := trans.OfWord(a, "")
	if e != api.OK {
		return nil, e
	}
	table, _ := trans.New(one.N)
	out := &finding{letters: a.Letters, table: table}
	out.put(one, way{})
	steps := letterSteps(a)
	// The elements are gone through as they were met, and the letters from a on: so each is met by its least word first.
	for at := 0; at < table.Len(); at++ {
		if !out.extend(at, steps) {
			return nil, api.ErrElems
		}
	}
	return out, api.OK
}

// letterSteps are what the letters do.
func letterSteps(a api.Auto) []api.Trans {
	out := make([]api.Trans, a.Letters)
	for l := range out {
		out[l], _ = trans.OfWord(a, letterOf(l))
	}
	return out
}

// letterOf is the word of the one letter of that place.
func letterOf(l int) string { return string(rune(firstLetter + l)) }

// extend puts each letter behind an element; false, if there are too many elements then.
func (f *finding) extend(at int, steps []api.Trans) bool {
	here, _ := f.table.At(at)
	for l, step := range steps {
		t, _ := trans.Compose(here, step)
		number, is := f.put(t, way{at, l})
		if !is {
			return false
		}
		f.right = append(f.right, uint16(number))
	}
	return true
}

// put is the number of a transformation, which is an element from now on, if it was none; false, if there is no room for it.
func (f *finding) put(t api.Trans, came way) (int, bool) {
	number, isNew, e := f.table.Put(t)
	if isNew {
		f.ways = append(f.ways, came)
	}
	return number, e == api.OK
}

// words are the elements' least words.
func (f *finding) words() []string {
	out := make([]string, len(f.ways))
	for i, w := range f.ways[1:] {
		out[i+1] = out[w.from] + letterOf(w.letter)
	}
	return out
}

// accepted tells whose words lead from 0 to an accepted state.
func (f *finding) accepted(a api.Auto) []bool {
	out := make([]bool, len(f.ways))
	for i := range out {
		t, _ := f.table.At(i)
		to, _ := trans.At(t, 0)
		out[i] = a.Accept[to]
	}
	return out
}
