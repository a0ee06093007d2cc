package trans

import "eggbox/api"

// Table: transformations of n points, by numbers.
type Table struct {
	self    *Table // itself, where New made it: a copy of a table, which would share the map with it, is one that nobody made
	n       int
	numbers map[api.Trans]int
	list    []api.Trans
}

// New: an empty one.
func New(n int) (*Table, api.Errno) {
	if !isSize(n) {
		return nil, api.ErrSize
	}
	out := &Table{n: n, numbers: map[api.Trans]int{}}
	out.self = out
	return out, api.OK
}

// isMade: did New make it?
func (x *Table) isMade() bool { return x != nil && x.self == x }

// Put: the number of a transformation, a new one if it has none so far.
func (x *Table) Put(t api.Trans) (number int, fresh bool, e api.Errno) {
	if !x.isMade() {
		return 0, false, api.ErrArg
	}
	if Check(t) != api.OK || t.N != x.n {
		return 0, false, api.ErrTrans
	}
	if old, there := x.numbers[t]; there {
		return old, false, api.OK
	}
	number = len(x.list)
	if number >= api.MaxElems {
		return 0, false, api.ErrFull
	}
	x.numbers[t] = number
	x.list = append(x.list, t)
	return number, true, api.OK
}

// Find: its number.
func (x *Table) Find(t api.Trans) (int, bool) {
	if !x.isMade() {
		return 0, false
	}
	number, there := x.numbers[t]
	return number, there
}

// At: the one of a number.
func (x *Table) At(number int) (api.Trans, bool) {
	if !x.isMade() || number < 0 || number >= len(x.list) {
		return api.Trans{}, false
	}
	return x.list[number], true
}

// Len: how many.
func (x *Table) Len() int {
	if !x.isMade() {
		return 0
	}
	return len(x.list)
}
