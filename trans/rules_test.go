package trans_test

import (
	"math"
	"slices"
	"testing"
	"unsafe"

	"eggbox/api"
	"eggbox/trans"
)

// answers are what the calls that take one or two transformations answer.
type answers struct {
	trans   [3]api.Trans // of Compose, Power, Inverse
	sets    [2]api.Set   // of Image, Fixed
	numbers [3]int       // of At, Cycle
	lists   [2][]int     // of List, Kernel
	errors  [9]api.Errno
}

func everyAnswer(x, y api.Trans, i int, n uint64) answers {
	var out answers
	out.trans[0], out.errors[0] = trans.Compose(x, y)
	out.trans[1], out.errors[1] = trans.Power(x, n)
	out.trans[2], out.errors[2] = trans.Inverse(x)
	out.sets[0], out.errors[3] = trans.Image(x)
	out.sets[1], out.errors[4] = trans.Fixed(x)
	out.numbers[0], out.errors[5] = trans.At(x, i)
	out.numbers[1], out.numbers[2], out.errors[6] = trans.Cycle(x)
	out.lists[0], out.errors[7] = trans.List(x)
	out.lists[1], out.errors[8] = trans.Kernel(x)
	return out
}

// same: lists without elements are the same, nil or not.
func (a answers) same(b answers) bool {
	return a.trans == b.trans && a.sets == b.sets && a.numbers == b.numbers && a.errors == b.errors && slices.Equal(a.lists[0], b.lists[0]) && slices.Equal(a.lists[1], b.lists[1])
}

func (a answers) clone() answers {
	a.lists = [2][]int{slices.Clone(a.lists[0]), slices.Clone(a.lists[1])}
	return a
}

func TestP1301MakeDoesNotChangeOrKeepItsList(t *testing.T) {
	for _, l := range samples() {
		room := append(slices.Clone(l), 77, 78, 79)
		x, e := trans.Make(room[:len(l)])
		if !slices.Equal(room, append(slices.Clone(l), 77, 78, 79)) {
			t.Fatalf("Make%s changed its list to %v", brief(l), room)
		}
		clear(room)
		gives(t, "Make"+brief(l), x, e, l)
	}
	for _, l := range [][]int{{-1, 5}, {1}, alike(65, 0)} {
		kept := slices.Clone(l)
		if trans.Make(l); !slices.Equal(l, kept) {
			t.Errorf("Make, which refuses, changed its list")
		}
	}
}

func TestP1301OfWordDoesNotChangeWhatIsHandedIn(t *testing.T) {
	d := dice(13)
	for _, n := range []int{1, 2, 64, 65} {
		a := d.auto(2, n)
		next := append(slices.Clone(a.Next), 77, 78)
		accept := append(slices.Clone(a.Accept), true, false, true)
		for _, w := range []string{"", "abba", "bc"} {
			text := []byte(w + "z")
			trans.OfWord(api.Auto{Letters: 2, Next: next[:2*n], Accept: accept[:n]}, unsafe.String(&text[0], len(w)))
			if !slices.Equal(next, append(slices.Clone(a.Next), 77, 78)) || !slices.Equal(accept, append(slices.Clone(a.Accept), true, false, true)) || string(text) != w+"z" {
				t.Errorf("OfWord of %d states and %q changed what was handed in", n, w)
			}
		}
	}
}

// spoil writes over a list and the room behind it.
func spoil(l []int) {
	l = l[:cap(l)]
	for i := range l {
		l[i] = -9
	}
}

// TestP1301AnswersAreNewMemory: writing over one list changes no other one, and no later answer.
func TestP1301AnswersAreNewMemory(t *testing.T) {
	for _, l := range samples() {
		x := packed(l...)
		kept := everyAnswer(x, x, 0, 3)
		should := kept.clone()
		other := everyAnswer(x, x, 0, 3)
		spoil(other.lists[0])
		spoil(other.lists[1])
		if !kept.same(should) || !everyAnswer(x, x, 0, 3).same(should) {
			t.Fatalf("%s: an answer shares memory with another one", brief(l))
		}
		spoil(kept.lists[0])
		if !slices.Equal(kept.lists[1], should.lists[1]) {
			t.Fatalf("%s: List and Kernel share memory", brief(l))
		}
	}
}

// TestP1301TheSameAnswerAgain: whatever was called in between, tables among it.
func TestP1301TheSameAnswerAgain(t *testing.T) {
	all := samples()
	var first []answers
	for i, l := range all {
		first = append(first, everyAnswer(packed(l...), packed(all[(i+1)%len(all)]...), i%70, uint64(i)))
		x := table(t, len(l))
		puts(t, x, packed(l...), 0, true, api.OK)
	}
	for i, l := range slices.Backward(all) {
		if !everyAnswer(packed(l...), packed(all[(i+1)%len(all)]...), i%70, uint64(i)).same(first[i]) {
			t.Errorf("%s has other answers after other calls", brief(l))
		}
	}
}

// TestP1301ATableKeepsWhatItWasGiven: what is done with an answer, or with what was put in, leaves it alone.
func TestP1301ATableKeepsWhatItWasGiven(t *testing.T) {
	x := table(t, 4)
	one := packed(1, 2, 0, 3)
	puts(t, x, one, 0, true, api.OK)
	one.Words[0] = 0
	got, _ := x.At(0)
	got.Words[0]++
	got.N = 9
	holds(t, x, []api.Trans{packed(1, 2, 0, 3)})
}

func TestP1301NoListIsTheEmptyList(t *testing.T) {
	one, e1 := trans.Make(nil)
	two, e2 := trans.Make([]int{})
	if one != two || e1 != e2 {
		t.Errorf("Make of no list: %v, %d; of an empty one: %v, %d", one, e1, two, e2)
	}
	for k := -1; k <= 9; k++ {
		one, e1 := trans.OfWord(api.Auto{Letters: k}, "")
		two, e2 := trans.OfWord(api.Auto{Letters: k, Next: []int{}, Accept: []bool{}}, "")
		if one != two || e1 != e2 || e1 != api.ErrAuto {
			t.Errorf("OfWord of no lists: %v, %d; of empty ones: %v, %d", one, e1, two, e2)
		}
	}
}

// anything is a transformation or, by a bit or a number, none.
func (d *dice) anything() api.Trans {
	n := 1 + d.below(64)
	if d.below(2) == 0 {
		n = 3
	}
	out := packed(d.images(n, n)...)
	if d.below(3) == 0 {
		out = packed(d.permutation(n)...)
	}
	if d.below(4) == 0 {
		out.Words[d.below(7)] ^= 1 << d.below(64)
	}
	if d.below(8) == 0 {
		out.N += d.below(5) - 2
	}
	if d.below(40) == 0 {
		out.N = noSizes()[d.below(len(noSizes()))]
	}
	return out
}

// shouldBe are the errors of all calls, by the chapter.
func shouldBe(x, y api.Trans, i int) [9]api.Errno {
	var out [9]api.Errno
	if !isTrans(x) {
		for at := range out {
			out[at] = api.ErrTrans
		}
		return out
	}
	if !isTrans(y) {
		out[0] = api.ErrTrans
	} else if x.N != y.N {
		out[0] = api.ErrArg
	}
	list, _ := trans.List(x)
	if !isPermutation(list) {
		out[2] = api.ErrTrans
	}
	if i < 0 || i >= x.N {
		out[5] = api.ErrNone
	}
	return out
}

// onlyErrors are the answers without what stands beside an error.
func (a answers) onlyErrors() answers {
	for at := range a.trans {
		if a.errors[at] != api.OK {
			a.trans[at] = api.Trans{}
		}
	}
	for at := range a.sets {
		if a.errors[3+at] != api.OK {
			a.sets[at] = api.Set{}
		}
		if a.errors[7+at] != api.OK {
			a.lists[at] = nil
		}
	}
	if a.errors[5] != api.OK {
		a.numbers[0] = 0
	}
	if a.errors[6] != api.OK {
		a.numbers[1], a.numbers[2] = 0, 0
	}
	return a
}

// TestP1301EveryInputEndsWithoutPanic: what is a transformation and what is none, with any number; each call answers its error alone, in their order.
func TestP1301EveryInputEndsWithoutPanic(t *testing.T) {
	d := dice(17)
	met := map[api.Errno]int{}
	for range 30000 {
		x, y := d.anything(), d.anything()
		i, n := d.below(80)-8, d.roll()>>d.below(64)
		if d.below(50) == 0 {
			i = []int{math.MinInt, math.MaxInt}[d.below(2)]
		}
		got := everyAnswer(x, y, i, n)
		if got.errors != shouldBe(x, y, i) || !got.same(got.onlyErrors()) {
			t.Fatalf("%v, %v, %d, %d: %+v", x, y, i, n, got)
		}
		for _, e := range got.errors {
			met[e]++
		}
		met[got.errors[0]+1000]++
	}
	for _, e := range []api.Errno{api.OK, api.ErrTrans, api.ErrNone, api.ErrArg, 1000 + api.OK, 1000 + api.ErrTrans, 1000 + api.ErrArg} {
		if met[e] < 500 {
			t.Errorf("of the calls %v", met)
		}
	}
}
