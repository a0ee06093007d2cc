package match

import (
	"eggbox/api"
	"eggbox/bits"
)

// reader: reads words of one length by a tree, part by part. The parts that belong to no part so far stand on a stack; each of them has a row there: for each place of the word, the one behind its last letter among them, the set of the ends from there on.
type reader struct {
	tree  []api.Node
	word  string
	rows  [][]api.Set
	spare [][]api.Set // rows that were taken from the stack: great ones are not made anew for each part
}

// readings: for each kind of a node what puts its row on the stack, in place of its parts' rows.
func readings() map[int]func(*reader, api.Node) {
	return map[int]func(*reader, api.Node){
		api.None:   (*reader).none,
		api.Empty:  (*reader).empty,
		api.Letter: (*reader).letter,
		api.Any:    (*reader).anyLetter,
		api.Union:  (*reader).union,
		api.Inter:  (*reader).inter,
		api.Concat: (*reader).concat,
		api.Star:   (*reader).star,
		api.Not:    (*reader).not,
	}
}

// ends: those of the whole tree, from w's first place on.
func (r *reader) ends(w string) api.Set {
	r.word = w
	read := readings()
	for _, n := range r.tree {
		read[n.Kind](r, n)
	}
	return r.pop()[0]
}

// places: how many of them the word has.
func (r *reader) places() int { return len(r.word) + 1 }

// push: a row of empty sets.
func (r *reader) push() []api.Set {
	var row []api.Set
	if last := len(r.spare) - 1; last >= 0 {
		row, r.spare = r.spare[last], r.spare[:last]
		clear(row)
	} else {
		row = make([]api.Set, r.places())
	}
	r.rows = append(r.rows, row)
	return row
}

func (r *reader) top() []api.Set { return r.rows[len(r.rows)-1] }

// pop takes the uppermost row away; it can be read until the next push.
func (r *reader) pop() []api.Set {
	row := r.top()
	r.rows = r.rows[:len(r.rows)-1]
	r.spare = append(r.spare, row)
	return row
}

func (r *reader) none(api.Node) { r.push() }

func (r *reader) empty(api.Node) {
	row := r.push()
	for place := range r.places() {
		row[place] = only(place)
	}
}

func (r *reader) letter(n api.Node) {
	row := r.push()
	for place := range len(r.word) {
		if r.word[place] == n.Sign {
			row[place] = only(place + 1)
		}
	}
}

func (r *reader) anyLetter(api.Node) {
	row := r.push()
	for place := range len(r.word) {
		row[place] = only(place + 1)
	}
}

func (r *reader) union(api.Node) {
	second, first := r.pop(), r.top()
	for place := range r.places() {
		first[place] = bits.Union(first[place], second[place])
	}
}

func (r *reader) inter(api.Node) {
	second, first := r.pop(), r.top()
	for place := range r.places() {
		first[place] = bits.Inter(first[place], second[place])
	}
}

func (r *reader) concat(api.Node) {
	second, first := r.pop(), r.top()
	for place := range r.places() {
		var ends api.Set
		for middle, ok := bits.Next(first[place], 0); ok; middle, ok = bits.Next(first[place], middle+1) {
			ends = bits.Union(ends, second[middle])
		}
		first[place] = ends
	}
}

// star goes through the places from the last one on: the star's own ends from a later place are those of what follows the first word of its part. That word may be taken not to be empty.
func (r *reader) star(api.Node) {
	row := r.top()
	for later := range r.places() {
		place := len(r.word) - later
		ends := only(place)
		rest := bits.Minus(row[place], ends)
		for middle, ok := bits.Next(rest, 0); ok; middle, ok = bits.Next(rest, 0) {
			ends = bits.Union(ends, row[middle])
			// An end that was found has brought its own ends with it.
			rest = bits.Minus(rest, ends)
		}
		row[place] = ends
	}
}

func (r *reader) not(api.Node) {
	row := r.top()
	ends, _ := bits.Below(r.places())
	for place := range r.places() {
		row[place] = bits.Minus(ends, row[place])
		ends, _ = bits.Without(ends, place)
	}
}

// only: the set of one number.
func only(i int) api.Set {
	s, _ := bits.With(api.Set{}, i)
	return s
}
