package trans_test

import (
	"math"
	"slices"
	"strconv"
	"testing"

	"eggbox/api"
	"eggbox/trans"
)

// packed is the transformation of a list of images, by the chapter's definition: an image is worth so many times 64, by the places behind it in its word.
func packed(images ...int) api.Trans {
	out := api.Trans{N: len(images)}
	for i, to := range images {
		worth := uint64(to)
		for range i % 10 {
			worth *= 64
		}
		out.Words[i/10] += worth
	}
	return out
}

// isTrans: is it one, by the chapter's definition, bit by bit?
func isTrans(t api.Trans) bool {
	if t.N < 1 || t.N > 64 {
		return false
	}
	images := make([]int, t.N)
	for bit := range 7 * 64 {
		if t.Words[bit/64]>>(bit%64)%2 == 0 {
			continue
		}
		point := bit/64*10 + bit%64/6
		if bit%64 >= 60 || point >= t.N {
			return false
		}
		images[point] += 1 << (bit % 64 % 6)
	}
	return slices.Max(images) < t.N
}

// setOf is the set of numbers below 64 for which in is true.
func setOf(in []bool) api.Set {
	var out api.Set
	for i := range in {
		if in[i] {
			out[0] += uint64(1) << i
		}
	}
	return out
}

// after is where each point goes by s first, then by t.
func after(s, t []int) []int {
	out := make([]int, len(s))
	for i := range s {
		out[i] = t[s[i]]
	}
	return out
}

// stay is where each of n points stays.
func stay(n int) []int {
	out := make([]int, n)
	for i := range out {
		out[i] = i
	}
	return out
}

// alike: all n points go to one.
func alike(n, to int) []int {
	out := make([]int, n)
	for i := range out {
		out[i] = to
	}
	return out
}

// lasso is a tail of so many points that leads into a ring of so many.
func lasso(tail, ring int) []int {
	out := make([]int, tail+ring)
	for i := range out {
		out[i] = i + 1
	}
	out[tail+ring-1] = tail
	return out
}

// beside are some lists as one, each with its own points.
func beside(lists ...[]int) []int {
	var out []int
	for _, l := range lists {
		first := len(out)
		for _, to := range l {
			out = append(out, first+to)
		}
	}
	return out
}

// rings are rings of these lengths, one beside the other.
func rings(lengths ...int) []int {
	var out []int
	for _, n := range lengths {
		out = beside(out, lasso(0, n))
	}
	return out
}

// renamed is the list where each point has another name; names has each point once.
func renamed(list, names []int) []int {
	out := make([]int, len(list))
	for i, to := range list {
		out[names[i]] = names[to]
	}
	return out
}

func isPermutation(list []int) bool {
	sorted := slices.Clone(list)
	slices.Sort(sorted)
	return slices.Equal(sorted, stay(len(list)))
}

// dice answers numbers that look thrown and are the same at each run.
type dice uint64

func (d *dice) roll() uint64 {
	x := uint64(*d)
	x ^= x << 13
	x ^= x >> 7
	x ^= x << 17
	*d = dice(x)
	return x
}

func (d *dice) below(n int) int { return int(d.roll() >> 11 % uint64(n)) }

// images are those of n points, each below so many.
func (d *dice) images(n, below int) []int {
	out := make([]int, n)
	for i := range out {
		out[i] = d.below(below)
	}
	return out
}

// permutation has each of n points once.
func (d *dice) permutation(n int) []int {
	out := stay(n)
	for i := n - 1; i > 0; i-- {
		j := d.below(i + 1)
		out[i], out[j] = out[j], out[i]
	}
	return out
}

func (d *dice) word(k, letters int) string {
	out := make([]byte, letters)
	for i := range out {
		out[i] = 'a' + byte(d.below(k))
	}
	return string(out)
}

// auto is an automaton of k letters and n states.
func (d *dice) auto(k, n int) api.Auto {
	out := api.Auto{Letters: k, Next: d.images(k*n, n), Accept: make([]bool, n)}
	for i := range out.Accept {
		out.Accept[i] = d.below(2) == 0
	}
	return out
}

// ofSize are lists of n points, of all kinds.
func (d *dice) ofSize(n int) [][]int {
	out := [][]int{stay(n), alike(n, 0), alike(n, n-1), alike(n, n/2), lasso(n-1, 1), lasso(0, n), lasso(n/2, n-n/2), d.images(n, (n+1)/2), d.images(n, (n+7)/8)}
	back := stay(n)
	slices.Reverse(back)
	out = append(out, back)
	for range 6 {
		out = append(out, d.images(n, n), d.permutation(n))
		tail := d.below(n)
		out = append(out, renamed(lasso(tail, n-tail), d.permutation(n)))
		ring := 1 + d.below(n)
		out = append(out, renamed(beside(lasso(0, ring), stay(n-ring)), d.permutation(n)))
	}
	return out
}

// samples are lists of each size, of all kinds.
func samples() [][]int {
	d := dice(88172645463325252)
	out := [][]int{{1, 2, 0, 3}, {1, 1, 3, 3}, {1, 3, 1, 3}}
	for n := 1; n <= 64; n++ {
		out = append(out, d.ofSize(n)...)
	}
	return out
}

// bySize are the samples by their sizes, for what takes two of one size.
func bySize() map[int][][]int {
	out := map[int][][]int{}
	for _, l := range samples() {
		out[len(l)] = append(out[len(l)], l)
	}
	return out
}

// every is each list of n points.
func every(n int) [][]int {
	out := [][]int{nil}
	for range n {
		var more [][]int
		for _, l := range out {
			for to := range n {
				more = append(more, append(slices.Clone(l), to))
			}
		}
		out = more
	}
	return out
}

// noSizes are numbers of points that may not be.
func noSizes() []int {
	return []int{0, -1, -2, -64, 65, 66, 70, 128, 512, 1 << 16, 1<<32 + 4, math.MaxInt, math.MaxInt - 1, math.MinInt, math.MinInt + 1}
}

// notTrans are no transformations: by their number of points, an image, or a bit where none may be.
func notTrans() []api.Trans {
	out := []api.Trans{{}, {N: 1, Words: [7]uint64{1}}}
	for _, n := range noSizes() {
		out = append(out, api.Trans{N: n}, api.Trans{N: n, Words: packed(1, 2, 0, 3).Words}, api.Trans{N: n, Words: packed(stay(64)...).Words})
	}
	d := dice(4711)
	for n := 1; n <= 64; n++ {
		for range 12 {
			t := packed(d.images(n, n)...)
			bit := d.below(7 * 64)
			t.Words[bit/64] |= 1 << (bit % 64)
			if !isTrans(t) {
				out = append(out, t)
			}
		}
		for _, at := range []int{0, n / 2, n - 1} {
			for _, to := range []int{n, 63} {
				list := d.images(n, n)
				list[at] = to
				if to >= n && to < 64 {
					out = append(out, packed(list...))
				}
			}
		}
	}
	return out
}

// made is the transformation of a list, where it must be answered.
func made(t *testing.T, images ...int) api.Trans {
	t.Helper()
	out, e := trans.Make(images)
	if e != api.OK {
		t.Fatalf("Make(%v): error %d", images, e)
	}
	return out
}

// done is Compose where it must be answered.
func done(t *testing.T, first, second api.Trans) api.Trans {
	t.Helper()
	out, e := trans.Compose(first, second)
	if e != api.OK {
		t.Fatalf("Compose(%v, %v): error %d", first, second, e)
	}
	return out
}

// times is Power where it must be answered.
func times(t *testing.T, x api.Trans, n uint64) api.Trans {
	t.Helper()
	out, e := trans.Power(x, n)
	if e != api.OK {
		t.Fatalf("Power(%v, %d): error %d", x, n, e)
	}
	return out
}

// gives holds a transformation that was answered to a list of images and OK.
func gives(t *testing.T, what string, got api.Trans, e api.Errno, should []int) {
	t.Helper()
	if got != packed(should...) || e != api.OK {
		t.Errorf("%s: %v, %d; should be %v", what, got, e, should)
	}
}

// refuses holds a transformation that was answered to an error, with nothing beside it.
func refuses(t *testing.T, what string, got api.Trans, e, should api.Errno) {
	t.Helper()
	if got != (api.Trans{}) || e != should {
		t.Errorf("%s: %v, %d; should be refused by %d", what, got, e, should)
	}
}

// brief is a list as a message may show it.
func brief(list []int) string {
	out := "("
	for i, n := range list {
		if i == 16 {
			return out + " .. " + strconv.Itoa(len(list)) + ")"
		}
		out += " " + strconv.Itoa(n)
	}
	return out + " )"
}
