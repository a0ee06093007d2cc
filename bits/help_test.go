package bits_test

import (
	"math"
	"slices"
	"testing"

	"eggbox/api"
	"eggbox/bits"
)

// plain is a set by its definition: which numbers are in it. The tests hold package bits against it.
type plain [api.MaxNumbers]bool

// packed is p as an api.Set, made by the definition of one.
func (p plain) packed() api.Set {
	var out api.Set
	for i, in := range p {
		if in {
			out[i/64] += uint64(1) << (i % 64)
		}
	}
	return out
}

func (p plain) list() []int {
	var out []int
	for i, in := range p {
		if in {
			out = append(out, i)
		}
	}
	return out
}

// plainOf is the plain set of numbers.
func plainOf(list ...int) plain {
	var p plain
	for _, i := range list {
		p[i] = true
	}
	return p
}

// plainBelow is the plain set of the numbers below n.
func plainBelow(n int) plain {
	var p plain
	for i := range n {
		p[i] = true
	}
	return p
}

// dice answers numbers that look thrown and are the same at each run.
type dice uint64

func (d *dice) roll() uint64 {
	x := uint64(*d)
	x ^= x << 13
	x ^= x >> 7
	x ^= x << 17
	*d = dice(x)
	return x
}

// thrown is a plain set that has one number out of each sparse, about.
func (d *dice) thrown(sparse uint64) plain {
	var p plain
	for i := range p {
		p[i] = d.roll()>>20%sparse == 0
	}
	return p
}

// samples are sets of all kinds: the empty one, the full one, single numbers, ends of words, thin and thick ones.
func samples() []plain {
	d := dice(88172645463325252)
	out := []plain{
		{}, plainBelow(512), plainBelow(1), plainBelow(63), plainBelow(64), plainBelow(65), plainBelow(511),
		plainOf(0), plainOf(63), plainOf(64), plainOf(511), plainOf(0, 511), plainOf(3, 64),
		plainOf(63, 64, 127, 128, 447, 448), plainOf(447), plainOf(448),
	}
	for _, sparse := range []uint64{1, 2, 2, 3, 10, 60, 200} {
		p := d.thrown(sparse)
		out = append(out, p)
		var no plain
		for i := range p {
			no[i] = !p[i]
		}
		out = append(out, no)
	}
	return out
}

// edges are ints at which an answer may turn, the least and the greatest of all among them.
func edges() []int {
	return []int{
		math.MinInt, math.MinInt + 1, -1 << 32, -1024, -513, -512, -511, -449, -448, -447, -129, -128, -127, -65, -64, -63, -2, -1,
		0, 1, 2, 3, 4, 62, 63, 64, 65, 100, 127, 128, 129, 255, 256, 257, 447, 448, 449, 510, 511, 512, 513, 1024,
		1 << 32, math.MaxInt - 1, math.MaxInt,
	}
}

// outside are the edges that are no numbers of a set.
func outside() []int {
	return slices.DeleteFunc(edges(), func(i int) bool { return i >= 0 && i < 512 })
}

// of is Of where it must be answered.
func of(t *testing.T, list ...int) api.Set {
	t.Helper()
	s, e := bits.Of(list)
	if e != api.OK {
		t.Fatalf("Of(%v): error %d", list, e)
	}
	return s
}

// below is Below where it must be answered.
func below(t *testing.T, n int) api.Set {
	t.Helper()
	s, e := bits.Below(n)
	if e != api.OK {
		t.Fatalf("Below(%d): error %d", n, e)
	}
	return s
}

// put is Put where it must be answered.
func put(t *testing.T, s api.Set, at, width int, v uint64) api.Set {
	t.Helper()
	out, e := bits.Put(s, at, width, v)
	if e != api.OK {
		t.Fatalf("Put(.., %d, %d, %d): error %d", at, width, v, e)
	}
	return out
}

// field is Field where it must be answered.
func field(t *testing.T, s api.Set, at, width int) uint64 {
	t.Helper()
	v, e := bits.Field(s, at, width)
	if e != api.OK {
		t.Fatalf("Field(.., %d, %d): error %d", at, width, e)
	}
	return v
}

// want holds a set that was answered against a plain one.
func want(t *testing.T, what string, got api.Set, p plain) {
	t.Helper()
	if got != p.packed() {
		t.Errorf("%s: has %v, wanted %v", what, bits.List(got), p.list())
	}
}
