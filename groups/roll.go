package groups

import (
	"slices"

	"eggbox/idem"
	"eggbox/monoid"
)

// roll is the record of a group's members. Each has a place in it, from 0 on, and what is said of a member stands at its place.
type roll struct {
	members  []int       // rising
	places   map[int]int // of the members
	periods  []int
	inverses []int // as places
	one      int   // the place of the idempotent
}

// rollOf is that of the group at an idempotent.
func rollOf(m *monoid.Monoid, e int) roll {
	members := membersAt(m, e)
	n := len(members)
	out := roll{members: members, places: make(map[int]int, n), periods: make([]int, n), inverses: make([]int, n)}
	for at, i := range members {
		out.places[i] = at
	}
	for at, i := range members {
		_, period, _ := idem.Cycle(m, i)
		// Once more round, since the power 0 is the monoid's identity, which need not be a member.
		inverse, _ := m.Power(i, uint64(2*period-1))
		out.periods[at], out.inverses[at] = period, out.places[inverse]
	}
	out.one = out.places[e]
	return out
}

// membersAt are the elements of an idempotent's H class, rising: those that it changes on neither side and that have it among their powers. (Such an i is below e, being e i and i e, and e, a power of i, is below i; in the class, a group whose one is e, all are such.) Green's relations tell the same, but of the whole monoid, which takes far longer.
func membersAt(m *monoid.Monoid, e int) []int {
	unchanged, _ := idem.Between(m, e)
	return slices.DeleteFunc(unchanged, func(i int) bool {
		omega, _ := idem.Omega(m, i)
		return omega != e
	})
}

// products are those of all two members, row by row, as places.
func (r *roll) products(m *monoid.Monoid) []uint16 {
	n := len(r.members)
	out := make([]uint16, 0, n*n)
	for _, i := range r.members {
		for _, j := range r.members {
			product, _ := m.Product(i, j)
			out = append(out, uint16(r.places[product]))
		}
	}
	return out
}
