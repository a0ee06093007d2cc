package groups

// Center: the members that commute with all; Derived: the members that commutators generate; Solvable: in how many steps of Derived one member is left.
func (g *Group) Center() []int {
	if !g.isMade() {
		return nil
	}
	return g.at(g.center())
}

func (g *Group) Derived() []int {
	if !g.isMade() {
		return nil
	}
	return g.at(g.derived(g.all()))
}

func (g *Group) Solvable() (steps int, ok bool) {
	if !g.isMade() {
		return 0, false
	}
	left := g.all()
	for len(left) > 1 {
		next := g.derived(left)
		if len(next) == len(left) {
			return 0, false
		}
		left = next
		steps++
	}
	return steps, true
}

// at are the members at these places.
func (g *Group) at(places []int) []int {
	out := make([]int, len(places))
	for n, place := range places {
		out[n] = g.members[place]
	}
	return out
}

// all are the places of all members.
func (g *Group) all() []int {
	out := make([]int, len(g.members))
	for place := range out {
		out[place] = place
	}
	return out
}

// where are the places at which something is so.
func where(isSo []bool) []int {
	var out []int
	for place, is := range isSo {
		if is {
			out = append(out, place)
		}
	}
	return out
}

// product is that of the members at two places, as a place.
func (g *Group) product(i, j int) int { return int(g.table[i*len(g.members)+j]) }

// center are the places of the members that commute with all.
func (g *Group) center() []int {
	isCentral := make([]bool, len(g.members))
	for i := range isCentral {
		isCentral[i] = g.commutes(i)
	}
	return where(isCentral)
}

func (g *Group) commutes(i int) bool {
	for j := range g.members {
		if g.product(i, j) != g.product(j, i) {
			return false
		}
	}
	return true
}

// derived are the places of the derived group of a group within this one.
func (g *Group) derived(within []int) []int {
	isCommutator := make([]bool, len(g.members))
	for _, i := range within {
		for _, j := range within {
			there, back := g.product(i, j), g.product(g.inverses[i], g.inverses[j])
			isCommutator[g.product(there, back)] = true
		}
	}
	return g.closed(where(isCommutator))
}

// closed are the places of all products of these members. The identity, from which they go out, is one, since each member has it among its powers.
func (g *Group) closed(members []int) []int {
	met := make([]bool, len(g.members))
	var visit func(place int)
	visit = func(place int) {
		if met[place] {
			return
		}
		met[place] = true
		for _, by := range members {
			visit(g.product(place, by))
		}
	}
	visit(g.one)
	return where(met)
}
