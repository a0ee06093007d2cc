package word_test

import (
	"math"
	"strings"
	"testing"

	"eggbox/api"
	"eggbox/word"
)

func TestP104InOrder(t *testing.T) {
	for _, x := range []struct{ k, size int }{{1, 40}, {2, 8}, {3, 5}, {5, 4}, {8, 3}} {
		words := allWords(x.k, x.size)
		for i, w := range words {
			if got, e := word.Nth(x.k, uint64(i)); got != w || e != api.OK {
				t.Fatalf("Nth(%d, %d) = %q, %d, want %q", x.k, i, got, e, w)
			}
			if n, e := word.Rank(x.k, w); n != uint64(i) || e != api.OK {
				t.Fatalf("Rank(%d, %q) = %d, %d, want %d", x.k, w, n, e, i)
			}
			if i+1 < len(words) {
				if got, e := word.Next(x.k, w); got != words[i+1] || e != api.OK {
					t.Fatalf("Next(%d, %q) = %q, %d, want %q", x.k, w, got, e, words[i+1])
				}
			}
		}
	}
}

func TestP104NextEdges(t *testing.T) {
	as := strings.Repeat("a", api.MaxLength-1)
	bs := strings.Repeat("b", api.MaxLength-1)
	for _, x := range []struct {
		k       int
		w, want string
		e       api.Errno
	}{
		{2, "", "a", api.OK}, {2, "bb", "aaa", api.OK}, {1, "", "a", api.OK}, {1, "a", "aa", api.OK},
		{8, "hh", "aaa", api.OK}, {8, "ahh", "baa", api.OK}, {3, "ac", "ba", api.OK},
		{2, bs, as + "a", api.OK},
		{2, "a" + bs, "b" + as, api.OK},
		{2, as + "a", as + "b", api.OK},
		{2, bs + "b", "", api.ErrSize},
		{2, bs + "a", bs + "b", api.OK},
		{3, bs + "b", bs + "c", api.OK},
		{1, as, as + "a", api.OK},
		{1, as + "a", "", api.ErrSize},
		{2, as + "aa", "", api.ErrSize},
		{2, bs + "bb", "", api.ErrSize},
		{1, as + as, "", api.ErrSize},
	} {
		if w, e := word.Next(x.k, x.w); w != x.want || e != x.e {
			t.Errorf("Next(%d, %q, %d letters) = %q, %d letters, %d", x.k, shortened(x.w), len(x.w), shortened(w), len(w), e)
		}
	}
}

func TestP104NthEdges(t *testing.T) {
	for _, x := range []struct {
		k    int
		n    uint64
		want string
		e    api.Errno
	}{
		{2, 5, "ba", api.OK}, {2, 0, "", api.OK}, {2, 1, "a", api.OK}, {1, 0, "", api.OK}, {8, 0, "", api.OK},
		{8, 8, "h", api.OK}, {8, 9, "aa", api.OK}, {8, 72, "hh", api.OK}, {8, 73, "aaa", api.OK},
		{1, 4095, strings.Repeat("a", 4095), api.OK}, {1, 4096, strings.Repeat("a", 4096), api.OK},
		{1, 4097, "", api.ErrSize}, {1, 1 << 32, "", api.ErrSize}, {1, 1 << 63, "", api.ErrSize},
		{1, math.MaxUint64, "", api.ErrSize},
		{2, math.MaxUint64, strings.Repeat("a", 64), api.OK},
		{2, math.MaxUint64 - 1, strings.Repeat("b", 63), api.OK},
		{2, 1 << 63, strings.Repeat("a", 62) + "b", api.OK},
		{2, 1<<63 - 1, strings.Repeat("a", 63), api.OK},
	} {
		if w, e := word.Nth(x.k, x.n); w != x.want || e != x.e {
			t.Errorf("Nth(%d, %d) = %q, %d, want %q, %d", x.k, x.n, shortened(w), e, shortened(x.want), x.e)
		}
	}
}

func TestP104RankEdges(t *testing.T) {
	for _, x := range []struct {
		k    int
		w    string
		want uint64
		e    api.Errno
	}{
		{2, "ba", 5, api.OK}, {2, "", 0, api.OK}, {1, "", 0, api.OK}, {8, "aa", 9, api.OK}, {8, "hhh", 584, api.OK},
		{2, strings.Repeat("a", 64), math.MaxUint64, api.OK},
		{2, strings.Repeat("b", 63), math.MaxUint64 - 1, api.OK},
		{2, strings.Repeat("a", 63) + "b", 0, api.ErrRange},
		{2, "b" + strings.Repeat("a", 63), 0, api.ErrRange},
		{2, strings.Repeat("a", 65), 0, api.ErrRange},
		{2, strings.Repeat("ab", api.MaxLength), 0, api.ErrRange},
		{1, strings.Repeat("a", 64), 64, api.OK},
		{1, strings.Repeat("a", api.MaxLength), api.MaxLength, api.OK},
		{1, strings.Repeat("a", api.MaxLength+1), api.MaxLength + 1, api.OK},
		{1, strings.Repeat("a", 100000), 100000, api.OK},
	} {
		if n, e := word.Rank(x.k, x.w); n != x.want || e != x.e {
			t.Errorf("Rank(%d, %q) = %d, %d, want %d, %d", x.k, shortened(x.w), n, e, x.want, x.e)
		}
	}
}

// The last word that has a number is that of 2^64 - 1; the one behind it has none.
func TestP104LastNumber(t *testing.T) {
	for k := 2; k <= api.MaxLetters; k++ {
		w, e := word.Nth(k, math.MaxUint64)
		if e != api.OK {
			t.Fatalf("Nth(%d, 2^64 - 1): error %d", k, e)
		}
		if n, e := word.Rank(k, w); n != math.MaxUint64 || e != api.OK {
			t.Errorf("Rank(%d, %q) = %d, %d", k, w, n, e)
		}
		next, e := word.Next(k, w)
		if e != api.OK {
			t.Fatalf("Next(%d, %q): error %d", k, w, e)
		}
		if n, e := word.Rank(k, next); n != 0 || e != api.ErrRange {
			t.Errorf("Rank(%d, %q) = %d, %d", k, next, n, e)
		}
	}
}

// sampleNumbers: small ones, and those beside the powers of 2 and of 10.
func sampleNumbers() []uint64 {
	var out []uint64
	for i := range uint64(300) {
		out = append(out, i, math.MaxUint64-i)
	}
	for i := range 64 {
		out = append(out, 1<<i-1, 1<<i, 1<<i+1)
	}
	for n := uint64(10); n < math.MaxUint64/10; n *= 10 {
		out = append(out, n-1, n, n+7)
	}
	return out
}

func TestP107OneByOne(t *testing.T) {
	for k := 1; k <= api.MaxLetters; k++ {
		for _, n := range sampleNumbers() {
			w, e := word.Nth(k, n)
			if e != api.OK {
				if k > 1 || n <= api.MaxLength || e != api.ErrSize {
					t.Errorf("Nth(%d, %d): error %d", k, n, e)
				}
				continue
			}
			if r, e := word.Rank(k, w); r != n || e != api.OK {
				t.Errorf("Rank(%d, Nth(%d)) = %d, %d", k, n, r, e)
			}
			next, e := word.Next(k, w)
			if e == api.ErrSize && len(w) == api.MaxLength || n == math.MaxUint64 {
				continue
			}
			if r, er := word.Rank(k, next); r != n+1 || e != api.OK || er != api.OK {
				t.Errorf("Rank(%d, Next(%q)) = %d, %d, %d, want %d", k, shortened(w), r, e, er, n+1)
			}
		}
	}
}

func TestP107NthOfRank(t *testing.T) {
	words := append(allWords(3, 5), "cbacbacbacba", strings.Repeat("c", 40), "b"+strings.Repeat("ac", 19))
	for _, w := range words {
		for k := 3; k <= 4; k++ {
			n, e := word.Rank(k, w)
			if e == api.ErrRange && k == 4 && len(w) > 31 {
				continue
			}
			if back, eb := word.Nth(k, n); e != api.OK || eb != api.OK || back != w {
				t.Errorf("Nth(%d, Rank(%q)) = %q, %d, %d", k, w, back, e, eb)
			}
		}
	}
}

func TestP107CompareIsThatOfNumbers(t *testing.T) {
	numbers := []uint64{0, 1, 2, 3, 7, 8, 9, 30, 31, 1 << 20, 1<<20 + 1, 1 << 63, 1<<63 - 1, math.MaxUint64}
	for k := 2; k <= api.MaxLetters; k++ {
		for _, m := range numbers {
			for _, n := range numbers {
				u, _ := word.Nth(k, m)
				v, _ := word.Nth(k, n)
				want := 0
				if m < n {
					want = -1
				} else if m > n {
					want = 1
				}
				if c, e := word.Compare(k, u, v); c != want || e != api.OK {
					t.Errorf("Compare(%d, %q, %q) = %d, %d, want %d", k, u, v, c, e, want)
				}
			}
		}
	}
}
