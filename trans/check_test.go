package trans_test

import (
	"math"
	"slices"
	"strconv"
	"testing"

	"eggbox/api"
	"eggbox/trans"
)

func TestP1302Examples(t *testing.T) {
	x, e := trans.Make([]int{1, 2, 0, 3})
	if x.N != 4 || x.Words != [7]uint64{786561} || e != api.OK {
		t.Errorf("Make(1 2 0 3): %v, %d", x, e)
	}
	got, e := trans.Make([]int{1})
	refuses(t, "Make(1)", got, e, api.ErrRange)
	got, e = trans.Make(nil)
	refuses(t, "Make(none)", got, e, api.ErrSize)
	if e := trans.Check(api.Trans{N: 1, Words: [7]uint64{1}}); e != api.ErrTrans {
		t.Errorf("Check of one point that goes to 1: %d", e)
	}
}

// TestP1302TheLastPlacesOfAWord: point 9 has the bits 54 to 59, point 10 the first ones of the next word, the points 60 to 63 those of the last word.
func TestP1302TheLastPlacesOfAWord(t *testing.T) {
	for at, should := range map[int][7]uint64{
		0: {63}, 1: {63 << 6}, 8: {63 << 48}, 9: {63 << 54}, 10: {0, 63}, 19: {0, 63 << 54}, 20: {0, 0, 63}, 29: {0, 0, 63 << 54}, 30: {0, 0, 0, 63},
		39: {0, 0, 0, 63 << 54}, 40: {0, 0, 0, 0, 63}, 49: {0, 0, 0, 0, 63 << 54}, 50: {0, 0, 0, 0, 0, 63}, 59: {0, 0, 0, 0, 0, 63 << 54},
		60: {0, 0, 0, 0, 0, 0, 63}, 63: {0, 0, 0, 0, 0, 0, 63 << 18},
	} {
		list := alike(64, 0)
		list[at] = 63
		got, e := trans.Make(list)
		if got.N != 64 || got.Words != should || e != api.OK {
			t.Errorf("point %d goes to 63, all others to 0: %v, %d; should be %v", at, got, e, should)
		}
	}
	full := made(t, alike(64, 63)...)
	last := uint64(1<<60 - 1)
	if full.Words != [7]uint64{last, last, last, last, last, last, 1<<24 - 1} {
		t.Errorf("all go to 63: %x", full.Words)
	}
}

func TestP1302Make(t *testing.T) {
	for _, l := range append(samples(), every(4)...) {
		got, e := trans.Make(l)
		gives(t, "Make"+brief(l), got, e, l)
		if e := trans.Check(got); e != api.OK {
			t.Errorf("Check of Make%s: %d", brief(l), e)
		}
	}
}

func TestP1302MakeOfTooFewOrTooMany(t *testing.T) {
	d := dice(5)
	for _, n := range []int{65, 66, 70, 71, 128, 256, 257, 512, 4096, 1 << 20} {
		for _, l := range [][]int{stay(n), alike(n, 0), alike(n, -1), alike(n, math.MaxInt), d.images(n, 64)} {
			got, e := trans.Make(l)
			refuses(t, "Make"+brief(l), got, e, api.ErrSize)
		}
	}
	got, e := trans.Make([]int{})
	refuses(t, "Make of an empty list", got, e, api.ErrSize)
}

// TestP1302MakeOutOfRange: also by images whose last six or eight bits are those of a point.
func TestP1302MakeOutOfRange(t *testing.T) {
	d := dice(6)
	for n := 1; n <= 64; n++ {
		for _, to := range []int{-1, -2, -64, -256, n, n + 1, 64, 65, 128, 256, 1 << 32, math.MinInt, math.MaxInt, math.MaxInt - 63} {
			for _, at := range []int{0, n / 3, n - 1} {
				l := d.images(n, n)
				l[at] = to
				got, e := trans.Make(l)
				refuses(t, "Make"+brief(l), got, e, api.ErrRange)
			}
		}
	}
}

func TestP1302CheckOfTheNumberOfPoints(t *testing.T) {
	for _, n := range noSizes() {
		for _, words := range [][7]uint64{{}, packed(stay(64)...).Words, packed(1, 2, 0, 3).Words} {
			if e := trans.Check(api.Trans{N: n, Words: words}); e != api.ErrTrans {
				t.Errorf("Check of %d points, %v: %d", n, words, e)
			}
		}
	}
	for n := 1; n <= 64; n++ {
		if e := trans.Check(api.Trans{N: n}); e != api.OK {
			t.Errorf("Check of %d points that all go to 0: %d", n, e)
		}
	}
}

// checks holds Check to the definition.
func checks(t *testing.T, x api.Trans) bool {
	t.Helper()
	is := isTrans(x)
	if e := trans.Check(x); is && e != api.OK || !is && e != api.ErrTrans {
		t.Errorf("Check of %v: %d; is it one: %v", x, e, is)
	}
	return is
}

// TestP1302CheckBitByBit: one bit more or less, at each place, in transformations of each size.
func TestP1302CheckBitByBit(t *testing.T) {
	d := dice(7)
	met := [2]int{}
	for n := 1; n <= 64; n++ {
		for _, l := range [][]int{alike(n, 0), alike(n, n-1), stay(n), d.images(n, n)} {
			for bit := range 7 * 64 {
				x := packed(l...)
				x.Words[bit/64] ^= 1 << (bit % 64)
				if checks(t, x) {
					met[1]++
				} else {
					met[0]++
				}
			}
		}
	}
	if met[0] < 10000 || met[1] < 10000 {
		t.Errorf("%d were none, %d were transformations", met[0], met[1])
	}
}

// TestP1302CheckOfTheBitsBehind: bits 60 to 63 of each word, those from 24 on of the last one, those of points from N on.
func TestP1302CheckOfTheBitsBehind(t *testing.T) {
	for w := range 7 {
		for bit := 60; bit < 64; bit++ {
			x := packed(stay(64)...)
			x.Words[w] |= 1 << bit
			if e := trans.Check(x); e != api.ErrTrans {
				t.Errorf("bit %d of word %d is set: %d", bit, w, e)
			}
		}
	}
	for bit := 24; bit < 60; bit++ {
		x := packed(alike(64, 63)...)
		x.Words[6] |= 1 << bit
		if e := trans.Check(x); e != api.ErrTrans {
			t.Errorf("bit %d of the last word is set: %d", bit, e)
		}
	}
	for n := 1; n < 64; n++ {
		x := packed(append(alike(n, 0), 1)...)
		x.N = n
		if e := trans.Check(x); e != api.ErrTrans {
			t.Errorf("%d points, and the next one goes to 1: %d", n, e)
		}
	}
}

func TestP1302CheckOfAnImageThatIsNoPoint(t *testing.T) {
	for n := 1; n < 64; n++ {
		for _, at := range []int{0, n / 2, n - 1} {
			for to := n; to < 64; to++ {
				l := alike(n, n-1)
				l[at] = to
				if e := trans.Check(packed(l...)); e != api.ErrTrans {
					t.Errorf("of %d points %d goes to %d: %d", n, at, to, e)
				}
			}
		}
	}
}

func TestP1302CheckOfThrownWords(t *testing.T) {
	d := dice(8)
	right := 0
	for range 20000 {
		n := 1 + d.below(64)
		x := api.Trans{N: n}
		for w := range 7 {
			// What is joined by "and" has few bits, so that some are right.
			x.Words[w] = d.roll() & d.roll() & d.roll() & packed(alike(64, 63)...).Words[w]
			if w*10 >= n {
				x.Words[w] = 0
			}
		}
		if n%10 != 0 && n < 64 {
			x.Words[n/10] &= 1<<(6*(n%10)) - 1
		}
		if checks(t, x) {
			right++
		}
	}
	if right < 300 {
		t.Errorf("only %d were transformations", right)
	}
}

// takers are the calls that take one transformation and answer zeros beside an error: whether they do.
func takers() map[string]func(x api.Trans) (bool, api.Errno) {
	none := func(l []int, e api.Errno) (bool, api.Errno) { return len(l) == 0, e }
	empty := func(s api.Set, e api.Errno) (bool, api.Errno) { return s == api.Set{}, e }
	zero := func(x api.Trans, e api.Errno) (bool, api.Errno) { return x == api.Trans{}, e }
	out := map[string]func(x api.Trans) (bool, api.Errno){
		"List":    func(x api.Trans) (bool, api.Errno) { return none(trans.List(x)) },
		"Kernel":  func(x api.Trans) (bool, api.Errno) { return none(trans.Kernel(x)) },
		"Image":   func(x api.Trans) (bool, api.Errno) { return empty(trans.Image(x)) },
		"Fixed":   func(x api.Trans) (bool, api.Errno) { return empty(trans.Fixed(x)) },
		"Inverse": func(x api.Trans) (bool, api.Errno) { return zero(trans.Inverse(x)) },
		"Cycle": func(x api.Trans) (bool, api.Errno) {
			index, period, e := trans.Cycle(x)
			return index == 0 && period == 0, e
		},
		"Compose of it twice": func(x api.Trans) (bool, api.Errno) { return zero(trans.Compose(x, x)) },
	}
	for _, i := range []int{0, 3, -1, 64, 100, math.MinInt, math.MaxInt} {
		out["At "+strconv.Itoa(i)] = func(x api.Trans) (bool, api.Errno) {
			to, e := trans.At(x, i)
			return to == 0, e
		}
	}
	for _, n := range []uint64{0, 1, 2, math.MaxUint64} {
		out["Power "+strconv.FormatUint(n, 10)] = func(x api.Trans) (bool, api.Errno) { return zero(trans.Power(x, n)) }
	}
	for _, n := range []int{1, 4, 64} {
		one := packed(stay(n)...)
		out["Compose behind "+strconv.Itoa(n)] = func(x api.Trans) (bool, api.Errno) { return zero(trans.Compose(one, x)) }
		out["Compose ahead of "+strconv.Itoa(n)] = func(x api.Trans) (bool, api.Errno) { return zero(trans.Compose(x, one)) }
	}
	return out
}

// TestP1302ChecksErrorComesFirst: ahead of ErrNone and ErrArg, whatever stands beside it.
func TestP1302ChecksErrorComesFirst(t *testing.T) {
	bad := notTrans()
	for name, call := range takers() {
		for _, x := range bad {
			if zero, e := call(x); !zero || e != api.ErrTrans {
				t.Errorf("%s of %v: zeros %v, error %d", name, x, zero, e)
			}
		}
	}
	for i, x := range bad {
		got, e := trans.Compose(x, bad[len(bad)-1-i])
		refuses(t, "Compose of two that are none", got, e, api.ErrTrans)
	}
}

func TestP1302NotTransAreOfAllKinds(t *testing.T) {
	bad := notTrans()
	if len(bad) < 500 || slices.ContainsFunc(bad, isTrans) {
		t.Errorf("%d that are none, and one that is", len(bad))
	}
}
