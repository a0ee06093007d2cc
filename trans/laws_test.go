package trans_test

import (
	"math"
	"testing"

	"eggbox/api"
	"eggbox/trans"
)

// eachTwo tells visit of many two lists of one size, and of all of at most three points.
func eachTwo(visit func(s, t []int)) {
	for _, lists := range append([][][]int{every(1), every(2), every(3)}, slicesOf(bySize())...) {
		for _, s := range lists {
			for _, t := range lists {
				visit(s, t)
			}
		}
	}
}

func TestP1307ComposeAssociates(t *testing.T) {
	d := dice(1307)
	eachTwo(func(l, m []int) {
		x, y, z := made(t, l...), made(t, m...), made(t, d.images(len(l), len(l))...)
		if done(t, done(t, x, y), z) != done(t, x, done(t, y, z)) {
			t.Errorf("%s, %s, %v: Compose does not associate", brief(l), brief(m), z)
		}
	})
}

func TestP1307TheIdentityChangesNothing(t *testing.T) {
	for _, l := range many() {
		one, e := trans.Identity(len(l))
		if e != api.OK {
			t.Fatalf("Identity(%d): %d", len(l), e)
		}
		if x := made(t, l...); done(t, x, one) != x || done(t, one, x) != x {
			t.Errorf("%s and the identity", brief(l))
		}
	}
}

// TestP1307Powers: also where m + n is 2^64 - 1.
func TestP1307Powers(t *testing.T) {
	d := dice(64)
	for _, l := range samples() {
		x := made(t, l...)
		few := d.roll() >> 40
		much := d.roll()
		for _, p := range [][2]uint64{
			{0, 0}, {0, 1}, {1, 0}, {1, 1}, {2, 3}, {31, 33}, {few, 1}, {few, few}, {1, math.MaxUint64 - 1}, {math.MaxUint64, 0}, {0, math.MaxUint64},
			{1 << 63, 1<<63 - 1}, {much, math.MaxUint64 - much}, {much / 2, few},
		} {
			if times(t, x, p[0]+p[1]) != done(t, times(t, x, p[0]), times(t, x, p[1])) {
				t.Errorf("%s: Power by %d and by %d", brief(l), p[0], p[1])
			}
		}
	}
}

// does is OfWord where it must be answered.
func does(t *testing.T, a api.Auto, w string) api.Trans {
	t.Helper()
	out, e := trans.OfWord(a, w)
	if e != api.OK {
		t.Fatalf("OfWord of %q: error %d", w, e)
	}
	return out
}

func TestP1307OfWords(t *testing.T) {
	d := dice(26)
	for k := 1; k <= 8; k++ {
		for n := 1; n <= 64; n++ {
			a := d.auto(k, n)
			for _, lengths := range [][2]int{{0, 0}, {0, 3}, {3, 0}, {1, 1}, {2, 5}, {30, 40}} {
				u, v := d.word(k, lengths[0]), d.word(k, lengths[1])
				if does(t, a, u+v) != done(t, does(t, a, u), does(t, a, v)) {
					t.Errorf("%d states, %q, %q: OfWord of both is not Compose", n, u, v)
				}
			}
			if w := d.word(k, 4); times(t, does(t, a, w), 5) != does(t, a, w+w+w+w+w) {
				t.Errorf("%d states, %q five times: OfWord is not Power", n, w)
			}
		}
	}
}

// asked is what is asked of a transformation, each where it must be answered.
func asked(t *testing.T, x api.Trans) (image, fixed api.Set, kernel []int) {
	t.Helper()
	image, e1 := trans.Image(x)
	fixed, e2 := trans.Fixed(x)
	kernel, e3 := trans.Kernel(x)
	if e1 != api.OK || e2 != api.OK || e3 != api.OK {
		t.Fatalf("Image, Fixed, Kernel of %v: errors %d, %d, %d", x, e1, e2, e3)
	}
	return image, fixed, kernel
}

func TestP1308ImagesAndKernelsOfProducts(t *testing.T) {
	eachTwo(func(l, m []int) {
		x, y := made(t, l...), made(t, m...)
		both, _, joins := asked(t, done(t, x, y))
		last, _, _ := asked(t, y)
		_, _, first := asked(t, x)
		if both[0]&^last[0] != 0 {
			t.Errorf("%s, %s: the image of both is not within that of the second one", brief(l), brief(m))
		}
		for i := range l {
			// What the first one joins is joined with its least point.
			if joins[i] != joins[first[i]] || joins[i] > first[i] {
				t.Errorf("%s, %s: the kernel of both does not join %d and %d", brief(l), brief(m), i, first[i])
			}
		}
	})
}

func TestP1308IndexAndPeriod(t *testing.T) {
	alone, rings := 0, 0
	for _, l := range many() {
		x := made(t, l...)
		index, period, e := trans.Cycle(x)
		if e != api.OK || index < 0 || index >= len(l) || period < 1 {
			t.Errorf("Cycle of %s: %d %d, %d", brief(l), index, period, e)
			continue
		}
		at := times(t, x, uint64(index))
		if times(t, x, uint64(index+period)) != at {
			t.Errorf("Cycle of %s: %d %d, and the powers are unlike", brief(l), index, period)
		}
		if index > 0 && times(t, x, uint64(index+period-1)) == times(t, x, uint64(index-1)) {
			t.Errorf("Cycle of %s: an index below %d", brief(l), index)
		}
		if fixed := done(t, at, x) == at; fixed != (period == 1) {
			t.Errorf("Cycle of %s: %d %d, and the power at the index is fixed: %v", brief(l), index, period, fixed)
		}
		if period == 1 {
			alone++
		} else {
			rings++
		}
	}
	if alone < 300 || rings < 300 {
		t.Errorf("%d periods are 1, %d are not", alone, rings)
	}
}

// back is Inverse where it must be answered.
func back(t *testing.T, x api.Trans) api.Trans {
	t.Helper()
	out, e := trans.Inverse(x)
	if e != api.OK {
		t.Fatalf("Inverse of %v: error %d", x, e)
	}
	return out
}

func TestP1309Inverses(t *testing.T) {
	d := dice(1309)
	for n := 1; n <= 64; n++ {
		one := made(t, stay(n)...)
		for range 30 {
			x, y := made(t, d.permutation(n)...), made(t, d.permutation(n)...)
			if back(t, back(t, x)) != x || done(t, x, back(t, x)) != one || done(t, back(t, x), x) != one {
				t.Errorf("%v: the inverse does not lead back", x)
			}
			if back(t, done(t, x, y)) != done(t, back(t, y), back(t, x)) {
				t.Errorf("%v, %v: the inverse of both", x, y)
			}
			if l, e := trans.List(back(t, x)); e != api.OK || !isPermutation(l) {
				t.Errorf("the inverse of %v is no permutation: %v", x, l)
			}
		}
	}
}

func TestP1309IndexOfPermutations(t *testing.T) {
	met := map[bool]int{}
	for _, l := range many() {
		x := made(t, l...)
		index, period, e := trans.Cycle(x)
		is := isPermutation(l)
		met[is]++
		if (index == 0) != is || e != api.OK {
			t.Errorf("Cycle of %s: %d %d, %d; a permutation: %v", brief(l), index, period, e, is)
		}
		if _, e := trans.Inverse(x); (e == api.OK) != is {
			t.Errorf("Inverse of %s: %d; a permutation: %v", brief(l), e, is)
		}
		if is && back(t, x) != times(t, x, uint64(period-1)) {
			t.Errorf("%s: the inverse is not the power by a period less one", brief(l))
		}
	}
	if met[true] < 500 || met[false] < 500 {
		t.Errorf("%d permutations, %d others", met[true], met[false])
	}
}
