package trans_test

import (
	"math"
	"testing"

	"eggbox/api"
	"eggbox/trans"
)

// table is New where it must be answered.
func table(t *testing.T, n int) *trans.Table {
	t.Helper()
	out, e := trans.New(n)
	if out == nil || e != api.OK {
		t.Fatalf("New(%d): %v, %d", n, out, e)
	}
	return out
}

// puts holds Put to its answers.
func puts(t *testing.T, x *trans.Table, put api.Trans, number int, fresh bool, e api.Errno) {
	t.Helper()
	if n, is, got := x.Put(put); n != number || is != fresh || got != e {
		t.Errorf("Put(%v): %d, %v, %d; should be %d, %v, %d", put, n, is, got, number, fresh, e)
	}
}

// holds: are just these in the table, by their numbers?
func holds(t *testing.T, x *trans.Table, all []api.Trans) {
	t.Helper()
	if x.Len() != len(all) {
		t.Errorf("Len is %d, should be %d", x.Len(), len(all))
	}
	for number, one := range all {
		if n, is := x.Find(one); n != number || !is {
			t.Errorf("Find of number %d: %d, %v", number, n, is)
		}
		if got, is := x.At(number); got != one || !is {
			t.Errorf("At(%d): %v, %v; should be %v", number, got, is, one)
		}
	}
	for _, number := range []int{-1, -len(all), len(all), len(all) + 1, 512, 513, math.MinInt, math.MaxInt, 1 << 32} {
		if got, is := x.At(number); got != (api.Trans{}) || is {
			t.Errorf("At(%d) of %d: %v, %v", number, len(all), got, is)
		}
	}
}

// misses holds Find to it that none of these is there.
func misses(t *testing.T, x *trans.Table, none []api.Trans) {
	t.Helper()
	for _, one := range none {
		if n, is := x.Find(one); n != 0 || is {
			t.Errorf("Find of %v, which isn't there: %d, %v", one, n, is)
		}
	}
}

// unlike are that many transformations of n points, no two of them the same.
func (d *dice) unlike(n, many int) []api.Trans {
	var out []api.Trans
	met := map[api.Trans]int{}
	for len(out) < many {
		one := packed(d.images(n, n)...)
		if met[one]++; met[one] == 1 {
			out = append(out, one)
		}
	}
	return out
}

func TestP1306New(t *testing.T) {
	for n := 1; n <= 64; n++ {
		x := table(t, n)
		holds(t, x, nil)
		misses(t, x, []api.Trans{packed(stay(n)...), {}, {N: n}})
	}
	for _, n := range noSizes() {
		if x, e := trans.New(n); x != nil || e != api.ErrSize {
			t.Errorf("New(%d): %v, %d", n, x, e)
		}
	}
}

// TestP1306Numbers: each new one has the next number, and what is there keeps its own.
func TestP1306Numbers(t *testing.T) {
	d := dice(1306)
	for n := 1; n <= 64; n++ {
		x := table(t, n)
		var all []api.Trans
		met := map[api.Trans]int{}
		for range 60 {
			one := packed(d.images(n, 1+d.below(min(n, 3)))...)
			number, there := met[one]
			if !there {
				number = len(all)
				met[one] = number
				all = append(all, one)
			}
			puts(t, x, one, number, !there, api.OK)
			puts(t, x, one, number, false, api.OK)
			if x.Len() != len(all) {
				t.Fatalf("Len is %d after %d", x.Len(), len(all))
			}
		}
		holds(t, x, all)
	}
}

// TestP1306NearOnes: those that are unlike in one image alone, also in the last points, are not taken for each other.
func TestP1306NearOnes(t *testing.T) {
	for _, n := range []int{2, 10, 11, 20, 21, 60, 61, 63, 64} {
		x := table(t, n)
		all := []api.Trans{packed(alike(n, n-1)...)}
		for at := range n {
			l := alike(n, n-1)
			l[at] = n - 2
			all = append(all, packed(l...))
		}
		for number, one := range all {
			misses(t, x, all[number:])
			puts(t, x, one, number, true, api.OK)
		}
		holds(t, x, all)
	}
}

// TestP1306NoTransformation: what is none, or has another number of points; nothing has changed then.
func TestP1306NoTransformation(t *testing.T) {
	bad := notTrans()
	for _, n := range []int{1, 2, 10, 37, 64} {
		x := table(t, n)
		all := []api.Trans{packed(stay(n)...)}
		puts(t, x, all[0], 0, true, api.OK)
		var others []api.Trans
		for m := 1; m <= 64; m++ {
			if m != n {
				others = append(others, packed(stay(m)...), packed(alike(m, 0)...))
			}
		}
		for _, one := range append(others, bad...) {
			puts(t, x, one, 0, false, api.ErrTrans)
		}
		misses(t, x, append(others, bad...))
		holds(t, x, all)
	}
}

// TestP1306Full: MaxElems are there; one more is refused, and what is there is found as before.
func TestP1306Full(t *testing.T) {
	d := dice(512)
	for _, n := range []int{5, 6, 10, 11, 63, 64} {
		x := table(t, n)
		many := d.unlike(n, 520)
		all, more := many[:512], many[512:]
		for number, one := range all {
			puts(t, x, one, number, true, api.OK)
		}
		holds(t, x, all)
		for range 2 {
			for _, one := range more {
				puts(t, x, one, 0, false, api.ErrFull)
			}
			for number, one := range all {
				puts(t, x, one, number, false, api.OK)
			}
			puts(t, x, api.Trans{N: n + 1}, 0, false, api.ErrTrans)
			puts(t, x, api.Trans{N: n, Words: [7]uint64{1 << 63}}, 0, false, api.ErrTrans)
		}
		misses(t, x, more)
		holds(t, x, all)
	}
}

// TestP1306AllOfThem: of at most four points all find room.
func TestP1306AllOfThem(t *testing.T) {
	for n := 1; n <= 4; n++ {
		x := table(t, n)
		var all []api.Trans
		for number, l := range every(n) {
			all = append(all, packed(l...))
			puts(t, x, packed(l...), number, true, api.OK)
		}
		holds(t, x, all)
	}
}

// TestP1306TwoTablesByTurns: of one number of points and of unlike ones: what is in one is not in the other.
func TestP1306TwoTablesByTurns(t *testing.T) {
	d := dice(2)
	x, y, z := table(t, 7), table(t, 7), table(t, 8)
	forX, forZ := d.unlike(7, 512), d.unlike(8, 512)
	for i := range 512 {
		puts(t, x, forX[i], i, true, api.OK)
		misses(t, y, forX[511-i:512-i])
		puts(t, y, forX[511-i], i, true, api.OK)
		puts(t, z, forZ[i], i, true, api.OK)
		puts(t, x, forZ[i], 0, false, api.ErrTrans)
		puts(t, z, forX[i], 0, false, api.ErrTrans)
	}
	holds(t, x, forX)
	holds(t, z, forZ)
	for i := range 512 {
		if n, is := y.Find(forX[i]); n != 511-i || !is {
			t.Errorf("Find in the other table: %d, %v", n, is)
		}
	}
	holds(t, table(t, 7), nil)
}

// isNothing holds a table to the answers of one that is none.
func isNothing(t *testing.T, x *trans.Table) {
	t.Helper()
	for range 2 {
		for _, one := range append(notTrans()[:200], packed(0), packed(1, 2, 0, 3), packed(stay(64)...)) {
			puts(t, x, one, 0, false, api.ErrArg)
			misses(t, x, []api.Trans{one})
		}
		holds(t, x, nil)
	}
}

func TestP1306NoTable(t *testing.T) {
	isNothing(t, nil)
	isNothing(t, &trans.Table{})
	isNothing(t, new(trans.Table))
	var zero trans.Table
	isNothing(t, &zero)
}

// TestP1306ACopyIsNoTable: New did not make it, and what is done with it leaves the table alone.
func TestP1306ACopyIsNoTable(t *testing.T) {
	x := table(t, 4)
	all := []api.Trans{packed(1, 2, 0, 3), packed(1, 1, 3, 3)}
	empty := *x
	puts(t, x, all[0], 0, true, api.OK)
	other := *x
	isNothing(t, &empty)
	isNothing(t, &other)
	puts(t, x, all[1], 1, true, api.OK)
	isNothing(t, &other)
	holds(t, x, all)
}
