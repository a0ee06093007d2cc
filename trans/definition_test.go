package trans_test

import (
	"math"
	"slices"
	"testing"

	"eggbox/api"
	"eggbox/trans"
)

func TestP1303Examples(t *testing.T) {
	x, y := made(t, 1, 2, 0, 3), made(t, 1, 1, 3, 3)
	got, e := trans.Compose(x, y)
	gives(t, "Compose(T, S)", got, e, []int{1, 3, 1, 3})
	got, e = trans.Power(x, 7)
	gives(t, "Power(T, 7)", got, e, []int{1, 2, 0, 3})
	if l, e := trans.List(x); !slices.Equal(l, []int{1, 2, 0, 3}) || e != api.OK {
		t.Errorf("List(T): %v, %d", l, e)
	}
}

func TestP1304Examples(t *testing.T) {
	x, y := made(t, 1, 2, 0, 3), made(t, 1, 1, 3, 3)
	if i, p, e := trans.Cycle(x); i != 0 || p != 3 || e != api.OK {
		t.Errorf("Cycle(T): %d %d, %d", i, p, e)
	}
	if s, e := trans.Fixed(x); s != (api.Set{8}) || e != api.OK {
		t.Errorf("Fixed(T): %v, %d", s, e)
	}
	got, e := trans.Inverse(x)
	gives(t, "Inverse(T)", got, e, []int{2, 0, 1, 3})
	if s, e := trans.Image(y); s != (api.Set{10}) || e != api.OK {
		t.Errorf("Image(S): %v, %d", s, e)
	}
	if l, e := trans.Kernel(y); !slices.Equal(l, []int{0, 0, 2, 2}) || e != api.OK {
		t.Errorf("Kernel(S): %v, %d", l, e)
	}
	if i, p, e := trans.Cycle(y); i != 1 || p != 1 || e != api.OK {
		t.Errorf("Cycle(S): %d %d, %d", i, p, e)
	}
}

// many are the samples, and each list of at most four points.
func many() [][]int {
	out := samples()
	for n := 1; n <= 4; n++ {
		out = append(out, every(n)...)
	}
	return out
}

func TestP1303List(t *testing.T) {
	for _, l := range many() {
		if got, e := trans.List(packed(l...)); !slices.Equal(got, l) || e != api.OK {
			t.Errorf("List of %s: %v, %d", brief(l), got, e)
		}
	}
}

func TestP1303At(t *testing.T) {
	for _, l := range many() {
		x := packed(l...)
		for i, to := range l {
			if got, e := trans.At(x, i); got != to || e != api.OK {
				t.Errorf("At(%s, %d): %d, %d", brief(l), i, got, e)
			}
		}
		for _, i := range []int{-1, -len(l), -64, math.MinInt, len(l), len(l) + 1, 64, 70, 256, 1 << 32, math.MaxInt} {
			if got, e := trans.At(x, i); got != 0 || e != api.ErrNone {
				t.Errorf("At(%s, %d): %d, %d", brief(l), i, got, e)
			}
		}
	}
}

func TestP1303Identity(t *testing.T) {
	for n := 1; n <= 64; n++ {
		got, e := trans.Identity(n)
		gives(t, "Identity", got, e, stay(n))
	}
	for _, n := range noSizes() {
		got, e := trans.Identity(n)
		refuses(t, "Identity", got, e, api.ErrSize)
	}
}

func TestP1303Compose(t *testing.T) {
	for _, lists := range append([][][]int{every(1), every(2), every(3), every(4)}, slicesOf(bySize())...) {
		for _, first := range lists {
			for _, second := range lists {
				got, e := trans.Compose(packed(first...), packed(second...))
				gives(t, "Compose of "+brief(first)+" and "+brief(second), got, e, after(first, second))
			}
		}
	}
}

// slicesOf are the values, by their keys.
func slicesOf(m map[int][][]int) [][][]int {
	var out [][][]int
	for n := 1; n <= 64; n++ {
		out = append(out, m[n])
	}
	return out
}

func TestP1303ComposeOfUnlikeN(t *testing.T) {
	d := dice(31)
	for n := 1; n <= 64; n++ {
		for m := 1; m <= 64; m++ {
			if n == m {
				continue
			}
			got, e := trans.Compose(packed(d.images(n, n)...), packed(d.images(m, m)...))
			refuses(t, "Compose of unlike N", got, e, api.ErrArg)
			got, e = trans.Compose(packed(alike(n, 0)...), packed(alike(m, 0)...))
			refuses(t, "Compose of unlike N that go to 0", got, e, api.ErrArg)
		}
	}
}

// TestP1303PowerStepByStep: one time after the other.
func TestP1303PowerStepByStep(t *testing.T) {
	for _, l := range many() {
		should := stay(len(l))
		for n := range uint64(70) {
			got, e := trans.Power(packed(l...), n)
			if got != packed(should...) || e != api.OK {
				t.Fatalf("Power(%s, %d): %v, %d; should be %v", brief(l), n, got, e, should)
			}
			should = after(should, l)
		}
	}
}

// goes is where a point goes in n steps, each of which is a step of its way: it comes back to where it was, and from there on goes round.
func goes(list []int, i int, n uint64) int {
	way := []int{}
	for !slices.Contains(way, i) {
		way = append(way, i)
		i = list[i]
	}
	tail := uint64(slices.Index(way, i))
	if n >= tail {
		n = tail + (n-tail)%(uint64(len(way))-tail)
	}
	return way[n]
}

// greatTimes are numbers of times that are too many to be gone through.
func greatTimes() []uint64 {
	out := []uint64{math.MaxUint64, math.MaxUint64 - 1, math.MaxUint64 - 63, 1 << 63, 1<<63 - 1, 1<<63 + 1, 1 << 32, 1<<32 - 1, 1<<32 + 1, 12345678901234567890, 2042040, 2042041}
	d := dice(99)
	for range 20 {
		out = append(out, d.roll())
	}
	return out
}

func TestP1303PowerByGreatNumbers(t *testing.T) {
	for _, l := range samples() {
		for _, n := range greatTimes() {
			should := make([]int, len(l))
			for i := range l {
				should[i] = goes(l, i, n)
			}
			got, e := trans.Power(packed(l...), n)
			if got != packed(should...) || e != api.OK {
				t.Fatalf("Power(%s, %d): %v, %d; should be %v", brief(l), n, got, e, should)
			}
		}
	}
}

// TestP1303PowerAtItsEdges: none, one, and 2^64 - 1, of which 3, 5 and 17 are divisors, and 2, 7 are not.
func TestP1303PowerAtItsEdges(t *testing.T) {
	for n, should := range map[int]int{2: 1, 3: 0, 4: 3, 5: 0, 7: 1, 8: 7, 16: 15, 17: 0, 64: 63} {
		ring := made(t, lasso(0, n)...)
		one, _ := trans.Identity(n)
		if times(t, ring, 0) != one || times(t, ring, 1) != ring {
			t.Errorf("a ring of %d: Power by 0 or by 1", n)
		}
		if to, _ := trans.At(times(t, ring, math.MaxUint64), 0); to != should {
			t.Errorf("a ring of %d: 0 goes by 2^64 - 1 steps to %d, should go to %d", n, to, should)
		}
	}
	for tail := range 64 {
		way := made(t, lasso(tail, 64-tail)...)
		if times(t, way, 0) != packed(stay(64)...) {
			t.Errorf("a tail of %d: Power by 0 is not the identity", tail)
		}
	}
}

// cycle is the least index, and then the least period, power by power; false, if more than so many steps are needed.
func cycle(list []int, most int) (index, period int, is bool) {
	met := map[api.Trans]int{}
	now := stay(len(list))
	for step := range most + 1 {
		x := packed(now...)
		if first, again := met[x]; again {
			return first, step - first, true
		}
		met[x] = step
		now = after(now, list)
	}
	return 0, 0, false
}

// power is where each point goes in n steps.
func power(list []int, n int) []int {
	out := make([]int, len(list))
	for i := range list {
		out[i] = goes(list, i, uint64(n))
	}
	return out
}

// isLeast: are the powers at the index and a period behind it the same, and those ahead of the index, or nearer by a divisor of the period, not?
func isLeast(list []int, index, period int) bool {
	again := func(i, p int) bool { return slices.Equal(power(list, i), power(list, i+p)) }
	for q := 2; q <= period; q++ {
		if period%q == 0 && again(index, period/q) {
			return false
		}
	}
	return again(index, period) && (index == 0 || !again(index-1, period))
}

// cycles holds Cycle to an index and a period.
func cycles(t *testing.T, list []int, index, period int) {
	t.Helper()
	if i, p, e := trans.Cycle(packed(list...)); i != index || p != period || e != api.OK {
		t.Errorf("Cycle of %s: %d %d, %d; should be %d %d", brief(list), i, p, e, index, period)
	}
}

// TestP1304Cycle: power by power, as long as these are not too many.
func TestP1304Cycle(t *testing.T) {
	indices, periods, long := 0, 0, 0
	for _, l := range many() {
		if index, period, is := cycle(l, 2000); is {
			cycles(t, l, index, period)
			indices, periods = max(indices, index), max(periods, period)
			continue
		}
		long++
		if i, p, e := trans.Cycle(packed(l...)); p < 1500 || p > 2042040 || !isLeast(l, i, p) || e != api.OK {
			t.Errorf("Cycle of %s: %d %d, %d", brief(l), i, p, e)
		}
	}
	if indices != 63 || periods < 1000 || long < 10 {
		t.Errorf("no index is above %d, no period above %d but for %d", indices, periods, long)
	}
}

// TestP1304CycleOfLassos: an index of 63 is the greatest; of more than one tail the longest one tells.
func TestP1304CycleOfLassos(t *testing.T) {
	d := dice(63)
	for n := 1; n <= 64; n++ {
		for tail := range n {
			l := lasso(tail, n-tail)
			cycles(t, l, tail, n-tail)
			cycles(t, renamed(l, d.permutation(n)), tail, n-tail)
		}
	}
	cycles(t, beside(lasso(5, 4), lasso(9, 6), lasso(0, 9), lasso(7, 1)), 9, 36)
	cycles(t, beside(lasso(20, 8), lasso(3, 12), lasso(0, 20)), 20, 120)
}

// TestP1304CycleOfLongPeriods: 2042040 is the greatest one that 64 points have.
func TestP1304CycleOfLongPeriods(t *testing.T) {
	d := dice(64)
	for _, c := range []struct {
		rings  []int
		period int
	}{
		{[]int{3, 5, 7, 8, 11, 13, 17}, 2042040}, {[]int{17, 13, 11, 8, 7, 5, 3}, 2042040},
		{[]int{3, 4, 5, 7, 11, 13, 17, 4}, 1021020}, {[]int{31, 32}, 992}, {[]int{1, 31, 32}, 992}, {[]int{2, 4, 8, 16, 32}, 32}, {[]int{6, 10, 15}, 30},
		{[]int{12, 18, 30}, 180}, {[]int{61}, 61}, {[]int{5, 7, 8, 9, 11, 13}, 360360}, {[]int{1, 1, 1}, 1}, {[]int{4, 4, 4, 6, 6, 6}, 12},
	} {
		l := rings(c.rings...)
		cycles(t, l, 0, c.period)
		l = renamed(l, d.permutation(len(l)))
		cycles(t, l, 0, c.period)
		if p := roundTrip(l); p != c.period {
			t.Errorf("rings %v are back after %d steps, not %d", c.rings, p, c.period)
		}
	}
	cycles(t, beside(lasso(4, 3), rings(5, 7, 8, 11, 13), lasso(9, 1)), 9, 120120)
}

// roundTrip is after how many steps, from 1 on, a permutation has each point back where it was.
func roundTrip(list []int) int {
	var now, next [64]int
	start := [64]int{}
	copy(start[:], stay(len(list)))
	now = start
	for step := 1; ; step++ {
		for i := range list {
			next[i] = list[now[i]]
		}
		now = next
		if now == start {
			return step
		}
	}
}

func TestP1304Image(t *testing.T) {
	for _, l := range many() {
		in := make([]bool, len(l))
		for _, to := range l {
			in[to] = true
		}
		if s, e := trans.Image(packed(l...)); s != setOf(in) || e != api.OK {
			t.Errorf("Image of %s: %v, %d", brief(l), s, e)
		}
	}
}

func TestP1304Kernel(t *testing.T) {
	for _, l := range many() {
		should := make([]int, len(l))
		for i, to := range l {
			should[i] = slices.Index(l, to)
		}
		if got, e := trans.Kernel(packed(l...)); !slices.Equal(got, should) || e != api.OK {
			t.Errorf("Kernel of %s: %v, %d; should be %v", brief(l), got, e, should)
		}
	}
}

func TestP1304Fixed(t *testing.T) {
	for _, l := range many() {
		in := make([]bool, len(l))
		for i, to := range l {
			in[i] = i == to
		}
		if s, e := trans.Fixed(packed(l...)); s != setOf(in) || e != api.OK {
			t.Errorf("Fixed of %s: %v, %d", brief(l), s, e)
		}
	}
}

// TestP1304SetsOfManyPoints: the last points of all are in them.
func TestP1304SetsOfManyPoints(t *testing.T) {
	all := made(t, stay(64)...)
	whole := api.Set{math.MaxUint64}
	if s, e := trans.Image(all); s != whole || e != api.OK {
		t.Errorf("Image of the identity: %v, %d", s, e)
	}
	if s, e := trans.Fixed(all); s != whole || e != api.OK {
		t.Errorf("Fixed of the identity: %v, %d", s, e)
	}
	last := made(t, alike(64, 63)...)
	if s, e := trans.Fixed(last); s != (api.Set{1 << 63}) || e != api.OK {
		t.Errorf("Fixed where all go to 63: %v, %d", s, e)
	}
	if s, e := trans.Fixed(made(t, lasso(0, 64)...)); s != (api.Set{}) || e != api.OK {
		t.Errorf("Fixed of a ring: %v, %d", s, e)
	}
}

func TestP1304Inverse(t *testing.T) {
	met := map[bool]int{}
	for _, l := range many() {
		got, e := trans.Inverse(packed(l...))
		is := isPermutation(l)
		met[is]++
		if !is {
			refuses(t, "Inverse of "+brief(l), got, e, api.ErrTrans)
			continue
		}
		back := make([]int, len(l))
		for i, to := range l {
			back[to] = i
		}
		gives(t, "Inverse of "+brief(l), got, e, back)
	}
	if met[true] < 500 || met[false] < 500 {
		t.Errorf("%d permutations, %d others", met[true], met[false])
	}
}

// TestP1304InverseOfNearlyAPermutation: just two points have one image.
func TestP1304InverseOfNearlyAPermutation(t *testing.T) {
	d := dice(12)
	for n := 2; n <= 64; n++ {
		for i := range n {
			l := d.permutation(n)
			l[i] = l[(i+1+d.below(n-1))%n]
			got, e := trans.Inverse(packed(l...))
			refuses(t, "Inverse of "+brief(l), got, e, api.ErrTrans)
		}
	}
}

// TestP1304OnePoint: of one point there is one transformation.
func TestP1304OnePoint(t *testing.T) {
	one := made(t, 0)
	cycles(t, []int{0}, 0, 1)
	if got, e := trans.Inverse(one); got != one || e != api.OK {
		t.Errorf("Inverse: %v, %d", got, e)
	}
	if l, e := trans.Kernel(one); !slices.Equal(l, []int{0}) || e != api.OK {
		t.Errorf("Kernel: %v, %d", l, e)
	}
	if done(t, one, one) != one || times(t, one, 0) != one || times(t, one, math.MaxUint64) != one {
		t.Error("Compose, or Power")
	}
}
