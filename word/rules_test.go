package word_test

import (
	"math"
	"slices"
	"strings"
	"testing"
	"unsafe"

	"eggbox/api"
	"eggbox/word"
)

// answer is what a call of one word answered, whichever call it was.
type answer struct {
	text string
	num  uint64
	list []int
	e    api.Errno
}

func (a answer) isZero() bool { return a.text == "" && a.num == 0 && len(a.list) == 0 }

func (a answer) same(b answer) bool {
	return a.text == b.text && a.num == b.num && a.e == b.e && slices.Equal(a.list, b.list)
}

type call struct {
	name string
	run  func(k int, w string) answer
}

// calls: each call with k and a word; what else it takes is chosen so that no other error applies to a short word.
func calls() []call {
	return []call{
		{"Check", func(k int, w string) answer { return answer{e: word.Check(k, w)} }},
		{"Compare left", func(k int, w string) answer {
			c, e := word.Compare(k, w, "")
			return answer{num: uint64(c), e: e}
		}},
		{"Compare right", func(k int, w string) answer {
			c, e := word.Compare(k, "", w)
			return answer{num: uint64(c), e: e}
		}},
		{"Next", func(k int, w string) answer {
			x, e := word.Next(k, w)
			return answer{text: x, e: e}
		}},
		{"Rank", func(k int, w string) answer {
			n, e := word.Rank(k, w)
			return answer{num: n, e: e}
		}},
		{"Power", func(k int, w string) answer {
			x, e := word.Power(k, w, 2)
			return answer{text: x, e: e}
		}},
		{"Reverse", func(k int, w string) answer {
			x, e := word.Reverse(k, w)
			return answer{text: x, e: e}
		}},
		{"Periods", func(k int, w string) answer {
			l, e := word.Periods(k, w)
			return answer{list: l, e: e}
		}},
		{"Root", func(k int, w string) answer {
			x, n, e := word.Root(k, w)
			return answer{text: x, num: uint64(n), e: e}
		}},
	}
}

func TestP102Check(t *testing.T) {
	for _, x := range []struct {
		k    int
		w    string
		want api.Errno
	}{
		{2, "abc", api.ErrLetter}, {9, "", api.ErrLetters}, {2, "", api.OK},
		{1, "", api.OK}, {1, "aaa", api.OK}, {1, "ab", api.ErrLetter}, {1, "b", api.ErrLetter},
		{8, "abcdefgh", api.OK}, {8, "abcdefghi", api.ErrLetter}, {7, "h", api.ErrLetter}, {7, "g", api.OK},
		{0, "", api.ErrLetters}, {-1, "a", api.ErrLetters}, {9, "z", api.ErrLetters}, {0, "z", api.ErrLetters},
		{math.MinInt, "", api.ErrLetters}, {math.MaxInt, "a", api.ErrLetters},
		{8, "A", api.ErrLetter}, {8, "`", api.ErrLetter}, {8, "a b", api.ErrLetter}, {8, "a\x00", api.ErrLetter},
		{8, "\xff", api.ErrLetter}, {8, "a\xe1", api.ErrLetter}, {8, "é", api.ErrLetter}, {8, "a\u0301", api.ErrLetter},
		{2, strings.Repeat("ab", api.MaxLength), api.OK},
		{2, strings.Repeat("ab", api.MaxLength) + "c", api.ErrLetter},
	} {
		if e := word.Check(x.k, x.w); e != x.want {
			t.Errorf("Check(%d, %q) = %d, want %d", x.k, shortened(x.w), e, x.want)
		}
	}
}

func TestP102CheckEachByte(t *testing.T) {
	for k := 1; k <= api.MaxLetters; k++ {
		for b := range 256 {
			want := api.ErrLetter
			if b >= 'a' && b < 'a'+k {
				want = api.OK
			}
			for _, w := range []string{string([]byte{byte(b)}), "a" + string([]byte{byte(b)}) + "a"} {
				if e := word.Check(k, w); e != want {
					t.Errorf("Check(%d, %q) = %d, want %d", k, w, e, want)
				}
			}
		}
	}
}

func TestP102AllCallsRefuse(t *testing.T) {
	for _, c := range calls() {
		for _, x := range []struct {
			k    int
			w    string
			want api.Errno
		}{
			{0, "a", api.ErrLetters}, {-7, "a", api.ErrLetters}, {9, "a", api.ErrLetters},
			{math.MinInt, "", api.ErrLetters}, {math.MaxInt, "", api.ErrLetters}, {0, "z", api.ErrLetters},
			{9, strings.Repeat("a", api.MaxLength+1), api.ErrLetters},
			{2, "abc", api.ErrLetter}, {1, "b", api.ErrLetter}, {8, "i", api.ErrLetter}, {8, "\xff", api.ErrLetter},
			{2, strings.Repeat("b", api.MaxLength+1) + "c", api.ErrLetter},
		} {
			a := c.run(x.k, x.w)
			if a.e != x.want || !a.isZero() {
				t.Errorf("%s of %d, %q: %+v, want error %d alone", c.name, x.k, shortened(x.w), a, x.want)
			}
		}
	}
}

func TestP102BeforeOtherErrors(t *testing.T) {
	if c, e := word.Compare(2, "c", "d"); c != 0 || e != api.ErrLetter {
		t.Errorf("Compare: %d, %d", c, e)
	}
	for _, k := range []int{math.MinInt, -1, 0, 9, math.MaxInt} {
		for _, n := range []uint64{0, 1, 5000, math.MaxUint64} {
			if w, e := word.Nth(k, n); w != "" || e != api.ErrLetters {
				t.Errorf("Nth(%d, %d) = %q, %d", k, n, w, e)
			}
		}
		if w, e := word.Power(k, "z", -1); w != "" || e != api.ErrLetters {
			t.Errorf("Power(%d, z, -1) = %q, %d", k, w, e)
		}
	}
	for _, n := range []int{math.MinInt, -1, 0, 1, math.MaxInt} {
		if w, e := word.Power(2, "abc", n); w != "" || e != api.ErrLetter {
			t.Errorf("Power(2, abc, %d) = %q, %d", n, w, e)
		}
	}
}

// P1: with an error every other answer is zero.
func TestP1ErrorsStandAlone(t *testing.T) {
	long := strings.Repeat("b", api.MaxLength+1)
	if x, e := word.Next(2, long); x != "" || e != api.ErrSize {
		t.Errorf("Next: %q, %d", shortened(x), e)
	}
	if x, e := word.Nth(1, math.MaxUint64); x != "" || e != api.ErrSize {
		t.Errorf("Nth: %q, %d", shortened(x), e)
	}
	if n, e := word.Rank(2, long); n != 0 || e != api.ErrRange {
		t.Errorf("Rank: %d, %d", n, e)
	}
	if x, e := word.Power(2, long, 1); x != "" || e != api.ErrSize {
		t.Errorf("Power: %q, %d", shortened(x), e)
	}
	if x, e := word.Power(2, "b", -1); x != "" || e != api.ErrArg {
		t.Errorf("Power: %q, %d", x, e)
	}
}

// P101: pure functions: one call after another answers the same, whatever was called in between.
func TestP101Pure(t *testing.T) {
	words := append(allWords(2, 5), "z", strings.Repeat("a", api.MaxLength), strings.Repeat("ab", 3000))
	for _, c := range calls() {
		var first []answer
		for _, w := range words {
			first = append(first, c.run(2, w))
		}
		for i := len(words) - 1; i >= 0; i-- {
			if a := c.run(2, words[i]); !a.same(first[i]) {
				t.Errorf("%s of %q: first %+v, then %+v", c.name, shortened(words[i]), first[i], a)
			}
		}
	}
}

func TestP1NewMemory(t *testing.T) {
	w := strings.Repeat("abaab", 4)
	from := uintptr(unsafe.Pointer(unsafe.StringData(w)))
	shares := func(x string) bool {
		at := uintptr(unsafe.Pointer(unsafe.StringData(x)))
		return x != "" && at >= from && at < from+uintptr(len(w))
	}
	root, _ := mustRoot(t, 2, w)
	power, _ := word.Power(2, w, 1)
	next, _ := word.Next(2, w)
	back, _ := word.Reverse(2, w)
	primitive, _ := mustRoot(t, 2, w[:len(w)-1])
	for i, x := range []string{root, power, next, back, primitive} {
		if shares(x) {
			t.Errorf("answer %d, %q, lies in its argument", i, x)
		}
	}
	list := mustPeriods(t, 2, w)
	want := slices.Clone(list)
	room := list[:cap(list)]
	for i := range room {
		room[i] = -1
	}
	if again := mustPeriods(t, 2, w); !slices.Equal(again, want) {
		t.Errorf("Periods after its answer was overwritten: %v, want %v", again, want)
	}
}
