package holds

import (
	"eggbox/api"
	"eggbox/monoid"
	"eggbox/order"
)

// trial puts elements in for an identity's variables, one assignment after the other.
type trial struct {
	rows
	m           *monoid.Monoid
	isLess      bool
	up          []api.Set // what is at or above an element, as far as that was asked
	left, right int       // the pieces that are the sides
}

// newTrial is that of an identity with these variables, out of that list of elements.
func newTrial(m *monoid.Monoid, id api.Identity, names string, list []int) *trial {
	t := &trial{rows: newRows(m, names, list), m: m, isLess: id.Less, up: make([]api.Set, m.Len())}
	t.left, t.right = t.lay(id.Left), t.lay(id.Right)
	return t
}

// failures goes through the assignments at which the identity fails, in their order.
func (t *trial) failures() func(yield func() bool) {
	return func(yield func() bool) {
		for changed, at := range assignments(len(t.chosen), len(t.names)) {
			t.turn(changed, at)
			if t.fails() && !yield() {
				return
			}
		}
	}
}

// fails: does it, at the assignment?
func (t *trial) fails() bool {
	left, right := t.value(t.left), t.value(t.right)
	if t.isLess {
		return !t.isAtMost(left, right)
	}
	return left != right
}

// isAtMost: is j at or above i?
func (t *trial) isAtMost(i, j int) bool {
	if i == j {
		return true
	}
	// Each element is at or above itself, so a set without elements is one that was not asked for so far.
	if t.up[i] == (api.Set{}) {
		t.up[i], _ = order.Up(t.m, i)
	}
	return t.up[i][j/64]>>(j%64)&1 == 1
}
