package word_test

import (
	"slices"
	"strings"
	"testing"

	"eggbox/api"
	"eggbox/word"
)

func TestP106Examples(t *testing.T) {
	for _, x := range []struct {
		w    string
		want []int
	}{
		{"", nil}, {"a", []int{1}}, {"ab", []int{2}}, {"aa", []int{1, 2}}, {"abaab", []int{3, 5}},
		{"aaa", []int{1, 2, 3}}, {"abab", []int{2, 4}}, {"ababa", []int{2, 4, 5}}, {"aabaabaa", []int{3, 6, 7, 8}},
	} {
		if list, e := word.Periods(2, x.w); !slices.Equal(list, x.want) || e != api.OK {
			t.Errorf("Periods(2, %q) = %v, %d, want %v", x.w, list, e, x.want)
		}
	}
	for _, x := range []struct {
		w, root string
		times   int
	}{
		{"", "", 0}, {"a", "a", 1}, {"aa", "a", 2}, {"ab", "ab", 1}, {"abab", "ab", 2}, {"aba", "aba", 1},
		{"ababa", "ababa", 1}, {"aabaab", "aab", 2}, {"abaaba", "aba", 2}, {"abababab", "ab", 4},
	} {
		if root, n, e := word.Root(2, x.w); root != x.root || n != x.times || e != api.OK {
			t.Errorf("Root(2, %q) = %q, %d, %d", x.w, root, n, e)
		}
	}
}

func checkByDefinition(t *testing.T, k int, w string) {
	t.Helper()
	if got, want := mustPeriods(t, k, w), plainPeriods(w); !slices.Equal(got, want) {
		t.Errorf("Periods(%d, %q) = %v, want %v", k, shortened(w), got, want)
	}
	root, times := mustRoot(t, k, w)
	if r, n := plainRoot(w); root != r || times != n {
		t.Errorf("Root(%d, %q) = %q, %d, want %q, %d", k, shortened(w), shortened(root), times, shortened(r), n)
	}
}

func TestP106ByDefinition(t *testing.T) {
	for _, x := range []struct{ k, size int }{{1, 30}, {2, 12}, {3, 7}, {8, 3}} {
		for _, w := range allWords(x.k, x.size) {
			checkByDefinition(t, x.k, w)
		}
	}
	fib := fibonacci(500)
	for _, w := range []string{fib, fib + fib, fib[:300], fib + "b", "b" + fib, strings.Repeat(fib[:55], 7)} {
		checkByDefinition(t, 2, w)
	}
}

// Words past MaxLength are asked, too; the time must not grow with the square of their length.
func TestP106LongWords(t *testing.T) {
	const size = 1 << 20
	same := strings.Repeat("a", size)
	if list := mustPeriods(t, 1, same); len(list) != size || list[0] != 1 || list[size-1] != size {
		t.Errorf("Periods of a^%d: %d of them", size, len(list))
	}
	if root, times := mustRoot(t, 1, same); root != "a" || times != size {
		t.Errorf("Root of a^%d: %q, %d", size, shortened(root), times)
	}
	if list := mustPeriods(t, 2, same+"b"); !slices.Equal(list, []int{size + 1}) {
		t.Errorf("Periods of a^%d b: %d of them", size, len(list))
	}
	if root, times := mustRoot(t, 2, same+"b"+same+"b"); root != same+"b" || times != 2 {
		t.Errorf("Root of (a^%d b)^2: %d letters, %d", size, len(root), times)
	}
	half := strings.Repeat("ab", api.MaxLength)
	if list := mustPeriods(t, 2, half+"a"); len(list) != api.MaxLength+1 || list[0] != 2 {
		t.Errorf("Periods of (ab)^%d a: %d of them", api.MaxLength, len(list))
	}
}

func TestP108LyndonSchuetzenberger(t *testing.T) {
	words := allWords(2, 6)
	for _, u := range words {
		ru, _ := mustRoot(t, 2, u)
		for _, v := range words {
			rv, _ := mustRoot(t, 2, v)
			if commute, want := u+v == v+u, u == "" || v == "" || ru == rv; commute != want {
				t.Errorf("%q and %q, of roots %q and %q: commute: %t", u, v, ru, rv, commute)
			}
		}
	}
}

func gcd(p, q int) int {
	for q > 0 {
		p, q = q, p%q
	}
	return p
}

func checkFineWilf(t *testing.T, k int, w string) {
	t.Helper()
	list := mustPeriods(t, k, w)
	for _, p := range list {
		for _, q := range list {
			if g := gcd(p, q); len(w) >= p+q-g && !slices.Contains(list, g) {
				t.Errorf("%q has the periods %d and %d and not %d", shortened(w), p, q, g)
			}
		}
	}
}

func TestP109FineWilf(t *testing.T) {
	for _, w := range allWords(2, 12) {
		checkFineWilf(t, 2, w)
	}
	checkFineWilf(t, 2, fibonacci(400))
	checkFineWilf(t, 1, strings.Repeat("a", 60))
	// The bound is 12 letters for 5 and 8: a word of 11 may have both and not 1.
	w := fibonacci(13)[:11]
	if list := mustPeriods(t, 2, w); !slices.Contains(list, 5) || !slices.Contains(list, 8) || list[0] == 1 {
		t.Errorf("Periods(2, %q) = %v", w, list)
	}
}

func TestP110PeriodsThatDivide(t *testing.T) {
	for _, w := range allWords(2, 12) {
		var dividing []int
		for _, p := range mustPeriods(t, 2, w) {
			if len(w)%p == 0 {
				dividing = append(dividing, p)
			}
		}
		var powers []int
		for p := 1; p <= len(w); p++ {
			if x, _ := word.Power(2, w[:p], len(w)/p); x == w {
				powers = append(powers, p)
			}
		}
		if !slices.Equal(dividing, powers) {
			t.Errorf("%q: periods that divide its length: %v, powers of its beginnings: %v", w, dividing, powers)
		}
		if root, _ := mustRoot(t, 2, w); w != "" && dividing[0] != len(root) {
			t.Errorf("%q: the least of %v is not the length of %q", w, dividing, root)
		}
	}
}

func TestP110RootOfPower(t *testing.T) {
	for _, r := range allWords(3, 5) {
		root, times := mustRoot(t, 3, r)
		for n := 1; n <= 9; n++ {
			w, e := word.Power(3, r, n)
			if e != api.OK {
				t.Fatalf("Power(3, %q, %d): error %d", r, n, e)
			}
			if got, m := mustRoot(t, 3, w); got != root || m != times*n {
				t.Errorf("Root(%q^%d) = %q, %d, want %q, %d", r, n, got, m, root, times*n)
			}
		}
	}
	r := fibonacci(64)[:64]
	w, _ := word.Power(2, r, api.MaxLength/64)
	if got, m := mustRoot(t, 2, w); got != r || m != api.MaxLength/64 || len(w) != api.MaxLength {
		t.Errorf("Root of a power of %d letters: %q, %d", len(w), shortened(got), m)
	}
}
