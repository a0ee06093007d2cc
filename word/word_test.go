package word_test

import (
	"math"
	"slices"
	"strings"
	"testing"

	"eggbox/api"
	"eggbox/word"
)

func TestP103Compare(t *testing.T) {
	for _, x := range []struct {
		k    int
		u, v string
		want int
	}{
		{2, "b", "aa", -1}, {2, "aa", "b", 1}, {2, "", "", 0}, {2, "", "a", -1}, {2, "a", "", 1},
		{2, "ab", "ba", -1}, {2, "abab", "abaa", 1}, {2, "ba", "ab", 1}, {8, "h", "g", 1}, {8, "ah", "ba", -1},
		{1, "aaa", "aaa", 0}, {1, "aaa", "aaaa", -1},
		{2, strings.Repeat("b", api.MaxLength), strings.Repeat("a", api.MaxLength+1), -1},
		{2, strings.Repeat("a", 9000) + "b", strings.Repeat("a", 9001), 1},
		{2, strings.Repeat("ab", 9000), strings.Repeat("ab", 9000), 0},
	} {
		if c, e := word.Compare(x.k, x.u, x.v); c != x.want || e != api.OK {
			t.Errorf("Compare(%d, %q, %q) = %d, %d, want %d", x.k, shortened(x.u), shortened(x.v), c, e, x.want)
		}
	}
}

func TestP103CompareAllPairs(t *testing.T) {
	words := allWords(3, 4) // which is in length-then-letter order
	for i, u := range words {
		for j, v := range words {
			want := 0
			if i < j {
				want = -1
			} else if i > j {
				want = 1
			}
			if c, e := word.Compare(3, u, v); c != want || e != api.OK {
				t.Errorf("Compare(3, %q, %q) = %d, %d, want %d", u, v, c, e, want)
			}
		}
	}
}

func TestP105Power(t *testing.T) {
	long := strings.Repeat("ab", api.MaxLength/2)
	for _, x := range []struct {
		w    string
		n    int
		want string
		e    api.Errno
	}{
		{"ab", 3, "ababab", api.OK}, {"ab", 1, "ab", api.OK}, {"ab", 0, "", api.OK},
		{"", 0, "", api.OK}, {"", 1, "", api.OK}, {"", math.MaxInt, "", api.OK},
		{"ab", -1, "", api.ErrArg}, {"", -1, "", api.ErrArg}, {"ab", math.MinInt, "", api.ErrArg},
		{long + "a", -1, "", api.ErrArg},
		{"ab", api.MaxLength / 2, long, api.OK}, {"ab", api.MaxLength/2 + 1, "", api.ErrSize},
		{"a", api.MaxLength, strings.Repeat("a", api.MaxLength), api.OK}, {"a", api.MaxLength + 1, "", api.ErrSize},
		{"aba", 1365, strings.Repeat("aba", 1365), api.OK}, {"aba", 1366, "", api.ErrSize},
		{long, 1, long, api.OK}, {long, 2, "", api.ErrSize},
		{long + "a", 0, "", api.OK}, {long + "a", 1, "", api.ErrSize},
		{"ab", math.MaxInt, "", api.ErrSize}, {"ab", math.MaxInt/2 + 1, "", api.ErrSize},
		{"abab", 1 << 62, "", api.ErrSize}, {"abab", 1<<62 + 1, "", api.ErrSize},
	} {
		if w, e := word.Power(2, x.w, x.n); w != x.want || e != x.e {
			t.Errorf("Power(2, %q, %d) = %q, %d, want %q, %d", shortened(x.w), x.n, shortened(w), e, shortened(x.want), x.e)
		}
	}
}

func TestP105Reverse(t *testing.T) {
	for _, x := range []struct{ w, want string }{
		{"", ""}, {"a", "a"}, {"aab", "baa"}, {"abc", "cba"}, {"abcd", "dcba"}, {"abcdefgh", "hgfedcba"},
		{strings.Repeat("a", 9000) + "b", "b" + strings.Repeat("a", 9000)},
	} {
		if w, e := word.Reverse(8, x.w); w != x.want || e != api.OK {
			t.Errorf("Reverse(8, %q) = %q, %d", shortened(x.w), shortened(w), e)
		}
	}
	for _, w := range allWords(3, 5) {
		back, e := word.Reverse(3, w)
		letters := []byte(w)
		slices.Reverse(letters)
		if back != string(letters) || e != api.OK {
			t.Errorf("Reverse(3, %q) = %q, %d", w, back, e)
		}
	}
}
