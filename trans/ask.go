package trans

import (
	"eggbox/api"
	"eggbox/bits"
)

// Cycle: the least i and then p at least 1 with t^(i+p) = t^i.
func Cycle(t api.Trans) (index, period int, e api.Errno) {
	m, e := open(t)
	if e != api.OK {
		return 0, 0, e
	}
	// All points are to be on their rings, and all rings back where they were.
	period = 1
	for i := range m.n {
		tail, ring := m.walk(i)
		index = max(index, tail)
		period = period / common(period, ring) * ring
	}
	return index, period, api.OK
}

// walk is how many steps a point makes till it is on a ring, and how many points that ring has.
func (m moves) walk(i int) (tail, ring int) {
	var met [api.MaxStates]int // the step at which each point is met, from 1 on
	step := 1
	for ; met[i] == 0; step++ {
		met[i] = step
		i = int(m.to[i])
	}
	return met[i] - 1, step - met[i]
}

// common is the greatest common divisor of two numbers from 1 on.
func common(a, b int) int {
	for b != 0 {
		a, b = b, a%b
	}
	return a
}

// Image: the points that are met.
func Image(t api.Trans) (api.Set, api.Errno) {
	list, e := List(t)
	if e != api.OK {
		return api.Set{}, e
	}
	return bits.Of(list)
}

// Kernel: for each point the least one that goes where it goes.
func Kernel(t api.Trans) ([]int, api.Errno) {
	out, e := List(t)
	if e != api.OK {
		return nil, e
	}
	var least [api.MaxStates]int // the least point that goes to each one, from 1 on
	for i, to := range out {
		if least[to] == 0 {
			least[to] = i + 1
		}
		out[i] = least[to] - 1
	}
	return out, api.OK
}

// Fixed: the points that stay.
func Fixed(t api.Trans) (api.Set, api.Errno) {
	list, e := List(t)
	if e != api.OK {
		return api.Set{}, e
	}
	var stay []int
	for i, to := range list {
		if i == to {
			stay = append(stay, i)
		}
	}
	return bits.Of(stay)
}

// Inverse: of a permutation.
func Inverse(t api.Trans) (api.Trans, api.Errno) {
	m, e := open(t)
	if e != api.OK {
		return api.Trans{}, e
	}
	back := moves{n: m.n}
	for i := range m.n {
		back.to[m.to[i]] = uint8(i)
	}
	// Of two points with one image just one is led back to itself.
	if m.then(back) != still(m.n) {
		return api.Trans{}, api.ErrTrans
	}
	return back.pack(), api.OK
}
